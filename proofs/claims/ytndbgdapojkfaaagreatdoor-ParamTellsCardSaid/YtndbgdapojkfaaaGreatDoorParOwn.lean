/- Contracts of the laws' Small (errandlaw17). -/
import Derived.Test.YtndbgdapojkfaaaGreatDoorParRefI
set_option linter.unusedVariables false
namespace Go.Proofs.YtndbgdapojkfaaaGreatDoor.Par
open Go.RowKit Go.Deep Go.Proofs.YtndbgdapojkfaaaGreatDoor.Byt Go.Proofs.YtndbgdapojkfaaaGreatDoor.Utf Go.Proofs.YtndbgdapojkfaaaGreatDoor.Tre Go.Proofs.YtndbgdapojkfaaaGreatDoor.Txt

/-- Few and short enough for a law. -/
def FewP (p : PP) : Prop := p.n.length ≤ 40 ∧ p.v.length ≤ 10 ∧ ∀ v ∈ p.v, v.length ≤ 80
def FewA (ps : List PP) : Prop := ps.length ≤ 10 ∧ ∀ p ∈ ps, FewP p
instance (p : PP) : Decidable (FewP p) := by unfold FewP; infer_instance
instance (ps : List PP) : Decidable (FewA ps) := by unfold FewA; infer_instance
theorem FewA.sm {ps : List PP} (h : FewA ps) : SmA ps := ⟨by have := h.1; omega, fun p hp => by
  obtain ⟨a, b, c⟩ := h.2 p hp
  exact ⟨by omega, by omega, fun v hv => by have := c v hv; omega⟩⟩
theorem all_take {α : Type} {P : α → Prop} {l : List α} {k : Nat} (h : k < l.length) (h1 : ∀ x ∈ l.take k, P x) (h2 : P l[k]) : ∀ x ∈ l.take (k + 1), P x := by
  intro x hx
  rw [List.take_succ_eq_append_getElem h] at hx
  rcases List.mem_append.1 hx with hx | hx
  · exact h1 x hx
  · have : x = l[k] := by simpa using hx
    subst this; exact h2
set_option maxRecDepth 20000 in
set_option maxHeartbeats 1000000 in
theorem small_any (ps : List PP) (a : Option Addr) (c : Nat) (w : World) (ha : Rd w (psD 49 ps) (.slice a ps.length c)) :
    Calls Tryz.prog 14 #[.slice a ps.length c] w fun r w' => r = .returned (.bool (decide (FewA ps))) ∧ w = w' := by
  have HA := Lib.hid ha
  clear ha
  by_cases h10 : ps.length ≤ 10
  · have t1 : ¬ (10 : Int) < ps.length := by omega
    go_enter Tryz.func14, Tryz.ntmps14
    go_wp2_with fail
    go_loop [3] (fun i => ∃ k : Nat, k ≤ ps.length ∧ i = .int .i64 k ∧ Hid (∀ p ∈ ps.take k, FewP p)) (fun i => ps.length - (intOf i).toNat)
    case atStart => exact ⟨0, Nat.zero_le _, rfl, Lib.hid (fun p hp => by simp at hp)⟩
    case round =>
      obtain ⟨i, hi, rfl, hq⟩ := hrel
      by_cases h : i < ps.length
      · have h' : (i : Int) < ps.length := by omega
        obtain ⟨ba, oa, rfl, a0, pa, ca, a1, pra⟩ := param_at HA.out h
        have PA := Lib.hid pra
        have hz := size_mk ps[i].n
        have HNE : Hid (¬ FewP ps[i] → decide (FewA ps) = false) := Lib.hid fun x => decide_eq_false fun y => x (y.2 _ (List.getElem_mem h))
        have HTE := Lib.hid (fun x => all_take (P := FewP) h hq.out x)
        clear pra hq
        generalize ps[i] = p at *
        by_cases e1 : p.n.length ≤ 40
        · have t2 : ¬ (40 : Int) < (ByteArray.mk p.n.toArray).size := by omega
          by_cases e2 : p.v.length ≤ 10
          · have t3 : ¬ (10 : Int) < p.v.length := by omega
            clear hz
            generalize ByteArray.mk p.n.toArray = np at *
            go_wp2_with fail
            go_loop [4] (fun j => ∃ k : Nat, k ≤ p.v.length ∧ j = .int .i64 k ∧ Hid (∀ v ∈ p.v.take k, v.length ≤ 80)) (fun j => p.v.length - (intOf j).toNat)
            case atStart => exact ⟨0, Nat.zero_le _, rfl, Lib.hid (fun p hp => by simp at hp)⟩
            case round =>
              obtain ⟨k, hk, rfl, hv⟩ := hrel
              by_cases hlt : k < p.v.length
              · have hk' : (k : Int) < p.v.length := by omega
                obtain ⟨bp, op, rfl, p0⟩ := text_in PA.out hlt
                have hzv := size_mk p.v[k]
                have HTV := Lib.hid (fun x => all_take (P := fun v : List UInt8 => v.length ≤ 80) hlt hv.out x)
                have HNV : Hid (¬ p.v[k].length ≤ 80 → ¬ FewP p) := Lib.hid fun x y => x (y.2.2 _ (List.getElem_mem hlt))
                clear hv
                generalize p.v[k] = x at *
                by_cases e3 : x.length ≤ 80
                · have t4 : ¬ (80 : Int) < (ByteArray.mk x.toArray).size := by omega
                  have HN := Lib.hid (HTV.out e3)
                  clear HTV HNV e3 HNE HTE hzv
                  generalize ByteArray.mk x.toArray = tx at *
                  go_wp2_with fail
                  go_round
                  case rel => exact ⟨k + 1, by omega, by go_num, HN⟩
                  case measure => simp [intOf]; omega
                · have t4 : (80 : Int) < (ByteArray.mk x.toArray).size := by omega
                  have HX := Lib.hid (HNE.out (HNV.out e3))
                  clear HTV HNV e3 HNE HTE hzv
                  generalize ByteArray.mk x.toArray = tx at *
                  go_wp2_with fail
                  go_ret
                  exact ⟨by rw [HX.out]; rfl, rfl⟩
              · obtain rfl : k = p.v.length := by omega
                have hv' := hv.out
                rw [List.take_of_length_le (Nat.le_refl _)] at hv'
                have HN := Lib.hid (HTE.out ⟨e1, e2, hv'⟩)
                clear hv hv' HTE HNE
                go_wp2_with fail
                go_round
                case rel => exact ⟨i + 1, by omega, by go_num, HN⟩
                case measure => simp [intOf]; omega
          · have t3 : (10 : Int) < p.v.length := by omega
            have HX := Lib.hid (HNE.out (fun z => e2 z.2.1))
            clear HNE HTE hz
            generalize ByteArray.mk p.n.toArray = np at *
            go_wp2_with fail
            go_ret
            exact ⟨by rw [HX.out]; rfl, rfl⟩
        · have t2 : (40 : Int) < (ByteArray.mk p.n.toArray).size := by omega
          have HX := Lib.hid (HNE.out (fun z => e1 z.1))
          clear HNE HTE hz
          generalize ByteArray.mk p.n.toArray = np at *
          go_wp2_with fail
          go_ret
          exact ⟨by rw [HX.out]; rfl, rfl⟩
      · obtain rfl : i = ps.length := by omega
        have hq' := hq.out
        rw [List.take_of_length_le (Nat.le_refl _)] at hq'
        have HX : Hid (decide (FewA ps) = true) := Lib.hid (decide_eq_true ⟨h10, hq'⟩)
        clear hq hq'
        go_wp2_with fail
        go_ret
        exact ⟨by rw [HX.out]; rfl, rfl⟩
  · have t1 : (10 : Int) < ps.length := by omega
    have HX := Lib.hid (decide_eq_false (fun z : FewA ps => h10 z.1))
    go_enter Tryz.func14, Tryz.ntmps14
    go_wp2_with fail
    go_ret
    exact ⟨by rw [HX.out]; rfl, rfl⟩
end Go.Proofs.YtndbgdapojkfaaaGreatDoor.Par
