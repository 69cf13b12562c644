/- Contracts of pack, fits and unpack. -/
import Derived.Test.YtkglolnghihegaaGreatDoorStoP
import Derived.Test.YtkglolnghihegaaGreatDoorOct
import Derived.Test.YtkglolnghihegaaGreatDoorSltA
import Derived.Laws.BytesArg
import Derived.Laws.IdiomStrings
namespace Go.Proofs.YtkglolnghihegaaGreatDoor.Sto
open Go.RowKit Go.Proofs.YtkglolnghihegaaGreatDoor.Dsk Go.Proofs.YtkglolnghihegaaGreatDoor.Shf Go.Proofs.YtkglolnghihegaaGreatDoor.Slt
open Go.Proofs.YtkglolnghihegaaGreatDoor.Oct (Reads Row.reads CV leftR takeR)

theorem reads_conv {w : World} {a : Option Addr} {cap : Nat} {l : List UInt8} (h : Reads w a l.length l) : (convert 59 9 (.slice a l.length cap)).run Tryz.prog w = .ok (.string ⟨l.toArray⟩) w := by
  cases a with
  | none =>
    have h0 : l = [] := by
      by_cases hn : 0 < l.length
      · obtain ⟨ad, e, -⟩ := h.2 hn; cases e
      · exact List.eq_nil_of_length_eq_zero (by omega)
    subst h0
    exact run_convert_bytes_nil w 59 5 Tryz.underlying59 Tryz.underlying5 _ _ 9 Tryz.underlying9
  | some ad =>
    refine run_convert_bytes_back w 59 9 5 ad cap l Tryz.underlying59 Tryz.underlying5 Tryz.underlying9 fun j hj => ?_
    obtain ⟨ad', e, -, hc⟩ := h.2 (by omega)
    injection e with e
    subst e
    exact hc j hj

theorem encT_len {F : List ByteArray} (h : ∀ t ∈ F, t.size ≤ 60) : (encT F).length ≤ 62 * F.length := by
  induction F with
  | nil => simp [encT]
  | cons a F ih =>
    have h1 := h a (by simp)
    have h2 := ih (fun t ht => h t (by simp [ht]))
    have h3 : a.data.toList.length = a.size := rfl
    simp only [encT, List.length_append, Oct.beB_length, h3, List.length_cons]
    omega

set_option maxHeartbeats 1000000 in
theorem pack_any (A : Option Addr) (m c : Nat) (F : List ByteArray) (w : World) (hF : RV w A m 1 (SV F)) (hs : ∀ t ∈ F, t.size ≤ 60) (hm : (m : Int) ≤ 1000) :
    Calls Tryz.prog 25 #[.slice A m c] w fun r w' => r = .returned (.string (pk F)) ∧ Below w.heap.size w w' := by
  have HFl := Lib.hid hF.sec
  have HFv := Lib.hid hF
  have HSz := Lib.hid hs
  clear hF hs
  go_enter Tryz.func25, Tryz.ntmps25
  go_wp2_with fail
  go_loopw [3, 4] (fun s3 s4 wr => ∃ i : Nat, i ≤ m ∧ s4 = .int .i64 i ∧ ∃ a len cap, s3 = .slice a len cap ∧ Hid (Below w.heap.size w wr ∧ Reads wr a len (encT (F.take i)))) (fun _ s4 _ => m - (intOf s4).toNat)
  case atStart => exact ⟨0, Nat.zero_le _, rfl, none, 0, 0, rfl, Lib.hid ⟨Below.refl _ _, rfl, fun h => absurd h (by decide)⟩⟩
  case round =>
    obtain ⟨i, hi, rfl, a, len, cap, rfl, HI⟩ := hrel
    by_cases hlt : i < m
    · have hil : i < F.length := by have := HFl.out; omega
      obtain ⟨b, off, rfl, hb, hall⟩ := (HFv.out.below HI.out.1).2 (by omega)
      have t0 := hall i (by rw [SV_length]; exact hil)
      rw [show (SV F)[i]'(by rw [SV_length]; exact hil) = .string F[i] from by simp [SV]] at t0
      have h60 := HSz.out _ (List.getElem_mem hil)
      have HTk := Lib.hid (encT_take F hil)
      have hle : len ≤ 62000 := by
        have h1 := HI.out.2.1
        have h2 := encT_len (F := F.take i) (fun t ht => HSz.out t (List.mem_of_mem_take ht))
        rw [List.length_take] at h2
        omega
      generalize F[i] = x at *
      have HStr := Lib.hid (Oct.str_ok a len cap (encT (F.take i)) x wr HI.out.2 (by omega) (by omega))
      have HLen := Lib.hid (show (encT (F.take i) ++ (Oct.beB 2 x.size ++ x.data.toList)).length = len + (2 + x.size) from by
        have h1 := HI.out.2.1
        have h3 : x.data.toList.length = x.size := rfl
        rw [List.length_append, List.length_append, Oct.beB_length, h3, h1])
      clear hall hb hle
      go_wp2_with (go_at_call 55; with_reducible refine HStr.out.mono ?_; rintro r w1 ⟨rfl, hrow, hb1⟩; have HRw := Lib.hid hrow; have HB1 := Lib.hid (HI.out.1.call hb1); clear hrow hb1)
      go_roundw
      case rel => exact ⟨i + 1, by omega, by go_num, _, _, _, rfl, Lib.hid ⟨HB1.out, by rw [HTk.out, ← HLen.out]; exact HRw.out.reads⟩⟩
      case measure => simp [intOf]; omega
    · obtain rfl : i = m := by omega
      have htk : F.take i = F := List.take_of_length_le (by have := HFl.out; omega)
      rw [htk] at HI
      obtain rfl : (encT F).length = len := HI.out.2.1
      have hcv := reads_conv (cap := cap) HI.out.2
      clear htk
      have HPk := Lib.hid (show (⟨(encT F).toArray⟩ : ByteArray) = pk F from rfl)
      rw [HPk.out] at hcv
      generalize hy : pk F = y at *
      have HY := Lib.hid hy
      clear hy
      go_wp2_with fail
      go_ret
      exact ⟨by rw [HY.out]; rfl, HI.out.1⟩

theorem fits_any (A : Option Addr) (m c : Nat) (F : List ByteArray) (w : World) (hF : RV w A m 1 (SV F)) (hs : ∀ t ∈ F, t.size ≤ 60) (hm : (m : Int) ≤ 1000) :
    Calls Tryz.prog 27 #[.slice A m c] w fun r w' => r = .returned (.bool (decide (cntN (pk F).size ≤ 6))) ∧ Below w.heap.size w w' := by
  have HP := Lib.hid (pack_any A m c F w hF hs hm)
  have HR := Lib.hid (fun W => room_any 24 W)
  rw [show longR (sizR 24) = 214 from by decide] at HR
  have hd : (decide (cntN (pk F).size ≤ 6)) = decide (((pk F).size : Int) ≤ 214) := by
    by_cases h : ((pk F).size : Int) ≤ 214
    · rw [decide_eq_true h, decide_eq_true (by unfold cntN; omega)]
    · rw [decide_eq_false h, decide_eq_false (by unfold cntN; omega)]
  rw [hd]
  clear hd hF
  generalize pk F = y at *
  go_enter Tryz.func27, Tryz.ntmps27
  go_wp2_with (first | (go_at_call 25; with_reducible refine HP.out.mono ?_; rintro r w1 ⟨rfl, hb1⟩; have HB1 := Lib.hid hb1; clear hb1) | (go_at_call 56; with_reducible refine (HR.out _).mono ?_; rintro r w2 ⟨rfl, rfl⟩))
  go_ret
  exact ⟨rfl, HB1.out⟩

end Go.Proofs.YtkglolnghihegaaGreatDoor.Sto
