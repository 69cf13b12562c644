/- Contract of SameTexts for any two lists. -/
import Derived.Test.YtkglolnghihegaaGreatDoorDskA
import Derived.Deep.RegionWith
namespace Go.Proofs.YtkglolnghihegaaGreatDoor.Sto
open Go.RowKit Go.Proofs.YtkglolnghihegaaGreatDoor.Dsk

theorem bytes_ne {a b : ByteArray} (h : ¬ a = b) : (!a.toList == b.toList) = true := by
  have : ¬ a.toList = b.toList := fun e => h (by
    rw [ByteArray.toList_eq, ByteArray.toList_eq] at e
    exact ByteArray.ext (Array.toList_inj.1 e))
  simpa using this

set_option maxHeartbeats 1000000 in
theorem sames_any (A : Option Addr) (m c : Nat) (B : Option Addr) (m' c' : Nat) (L M : List ByteArray) (w : World) (h1 : RV w A m 1 (SV L)) (h2 : RV w B m' 1 (SV M)) (hm : (m : Int) ≤ 2000) :
    Calls Tryz.prog 13 #[.slice A m c, .slice B m' c'] w fun r w' => r = .returned (.bool (decide (L = M))) ∧ Below w.heap.size w w' := by
  have HL := Lib.hid h1.sec
  have HM := Lib.hid h2.sec
  by_cases hmm : (m : Int) = m'
  · obtain rfl : m = m' := by omega
    have H1 := Lib.hid h1
    have H2 := Lib.hid h2
    clear h1 h2 hmm
    generalize hans : decide (L = M) = ans
    have HAns := Lib.hid hans
    clear hans
    go_enter Tryz.func13, Tryz.ntmps13
    go_wp2_with fail
    go_loopw [5] (fun s5 wr => ∃ i : Nat, i ≤ m ∧ s5 = .int .i64 i ∧ Hid (Below w.heap.size w wr ∧ ∀ j, j < i → L[j]? = M[j]?)) (fun s5 _ => m - (intOf s5).toNat)
    case atStart => exact ⟨0, Nat.zero_le _, rfl, Lib.hid ⟨Below.refl _ _, fun j hj => absurd hj (by omega)⟩⟩
    case round =>
      obtain ⟨i, hi, rfl, HI⟩ := hrel
      by_cases hlt : i < m
      · have hil : i < L.length := by have := HL.out; omega
        have him : i < M.length := by have := HM.out; omega
        obtain ⟨b, off, rfl, hb, ha⟩ := (H1.out.below HI.out.1).2 (by omega)
        obtain ⟨b', off', rfl, hb', ha'⟩ := (H2.out.below HI.out.1).2 (by omega)
        have t0 := ha i (by rw [SV_length]; exact hil)
        have t1 := ha' i (by rw [SV_length]; exact him)
        rw [show (SV L)[i]'(by rw [SV_length]; exact hil) = .string L[i] from by simp [SV]] at t0
        rw [show (SV M)[i]'(by rw [SV_length]; exact him) = .string M[i] from by simp [SV]] at t1
        clear ha ha'
        have HId := Lib.hid HI.out.1.drew
        have HX := Lib.hid (show L[i]? = some L[i] from List.getElem?_eq_getElem hil)
        have HY := Lib.hid (show M[i]? = some M[i] from List.getElem?_eq_getElem him)
        generalize L[i] = x at *
        generalize M[i] = y at *
        by_cases hxy : x = y
        · subst hxy
          have HNx : Hid (∀ j, j < i + 1 → L[j]? = M[j]?) := Lib.hid (fun j hj => by
            by_cases h : j < i
            · exact HI.out.2 j h
            · obtain rfl : j = i := by omega
              rw [HX.out, HY.out])
          go_wp2_with fail
          go_region
          all_goals (
            go_wp2_with fail
            go_roundw
            case rel => exact ⟨i + 1, by omega, by go_num, Lib.hid ⟨HId.out, HNx.out⟩⟩
            case measure => simp [intOf]; omega)
        · have hne := bytes_ne hxy
          have HFa : Hid (ans = false) := Lib.hid (by
            rw [← HAns.out]
            exact decide_eq_false fun e => hxy (by have := HX.out; rw [e, HY.out] at this; exact (Option.some.inj this).symm))
          go_wp2_with fail
          go_region
          all_goals (
            go_wp2_with fail
            go_ret
            exact ⟨by rw [HFa.out]; rfl, HId.out⟩)
      · obtain rfl : i = m := by omega
        have HTr : Hid (ans = true) := Lib.hid (by
          rw [← HAns.out]
          refine decide_eq_true (List.ext_getElem? fun j => ?_)
          by_cases h : j < i
          · exact HI.out.2 j h
          · rw [List.getElem?_eq_none (by have := HL.out; omega), List.getElem?_eq_none (by have := HM.out; omega)])
        go_wp2_with fail
        go_ret
        exact ⟨by rw [HTr.out]; rfl, HI.out.1⟩
  · have e : decide (L = M) = false := decide_eq_false fun e => hmm (by have h1 := HL.out; have h2 := HM.out; subst e; omega)
    rw [e]
    clear h1 h2
    go_enter Tryz.func13, Tryz.ntmps13
    go_wp2_with fail
    go_ret
    exact ⟨rfl, Below.refl _ _⟩

end Go.Proofs.YtkglolnghihegaaGreatDoor.Sto
