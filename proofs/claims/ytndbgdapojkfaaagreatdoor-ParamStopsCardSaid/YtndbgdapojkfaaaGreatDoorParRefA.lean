/- Contracts of the document's param (errandref17): sign, Name, fine, has, write, read. -/
import Derived.Test.YtndbgdapojkfaaaGreatDoorParMem
import Derived.Test.YtndbgdapojkfaaaGreatDoorPln
import Derived.Test.YtndbgdapojkfaaaGreatDoorUtfRefB
set_option linter.unusedVariables false
namespace Go.Proofs.YtndbgdapojkfaaaGreatDoor.Par
open Go.RowKit Go.Deep Go.Proofs.YtndbgdapojkfaaaGreatDoor.Byt Go.Proofs.YtndbgdapojkfaaaGreatDoor.Utf Go.Proofs.YtndbgdapojkfaaaGreatDoor.Tre Go.Proofs.YtndbgdapojkfaaaGreatDoor.Txt

theorem at_get {s : ByteArray} {k : Nat} (h : k < s.size) : at_ s.data.toList k = (s[k]'h).toNat := by
  unfold at_
  rw [List.getD_eq_getElem?_getD, List.getElem?_eq_getElem (by simpa using h)]
  rfl
theorem drop_at {s : ByteArray} {k : Nat} (h : k < s.size) : s.data.toList.drop k = (s[k]'h) :: s.data.toList.drop (k + 1) := List.drop_eq_getElem_cons (by simpa using h)
theorem take_at {s : ByteArray} {k : Nat} (h : k < s.size) : s.data.toList.take (k + 1) = s.data.toList.take k ++ [s[k]'h] := List.take_succ_eq_append_getElem (by simpa using h)
theorem drop_size (s : ByteArray) : s.data.toList.drop s.size = [] := List.drop_eq_nil_of_le (by rw [len_list]; exact Nat.le_refl _)
theorem take_size (s : ByteArray) : s.data.toList.take s.size = s.data.toList := List.take_of_length_le (by rw [len_list]; exact Nat.le_refl _)
theorem list_app (a b : ByteArray) : (a ++ b).data.toList = a.data.toList ++ b.data.toList := by simp
theorem one_at {s : ByteArray} {k : Nat} (h : k < s.size) : (s.extract k (k + 1)).data.toList = [s[k]'h] := by
  have : (s.extract k (k + 1)).data.toList = (s.data.toList.drop k).take 1 := by simp
  rw [this, drop_at h]; rfl
theorem sign_any (b : UInt8) (w : World) : Calls Tryz.prog 30 #[.int .u8 b.toNat] w fun r w' => r = .returned (.bool (sgn b)) ∧ w = w' := by
  have hb := b.toNat_lt
  rcases hs : sgn b with _ | _
  · have hn := of_decide_eq_false hs
    have t1 : ((b.toNat : Int) == 45) = false := by rw [beq_eq_false_iff_ne]; omega
    by_cases c1 : (65 : Int) ≤ b.toNat
    · have c2 : ¬ (b.toNat : Int) ≤ 90 := by omega
      have c3 : (48 : Int) ≤ b.toNat := by omega
      have c4 : ¬ (b.toNat : Int) ≤ 57 := by omega
      clear hn hs hb
      go_enter Tryz.func30, Tryz.ntmps30
      go_wp2
      go_ret
      exact ⟨rfl, rfl⟩
    · by_cases c3 : (48 : Int) ≤ b.toNat
      · have c4 : ¬ (b.toNat : Int) ≤ 57 := by omega
        clear hn hs hb
        go_enter Tryz.func30, Tryz.ntmps30
        go_wp2
        go_ret
        exact ⟨rfl, rfl⟩
      · clear hn hs hb
        go_enter Tryz.func30, Tryz.ntmps30
        go_wp2
        go_ret
        exact ⟨rfl, rfl⟩
  · have hn := of_decide_eq_true hs
    clear hs
    rcases hn with ⟨c1, c2⟩ | ⟨c1, c2⟩ | c1
    · have d1 : (65 : Int) ≤ b.toNat := by omega
      have d2 : (b.toNat : Int) ≤ 90 := by omega
      clear c1 c2 hb
      go_enter Tryz.func30, Tryz.ntmps30
      go_wp2
      go_ret
      exact ⟨rfl, rfl⟩
    · have d1 : ¬ (65 : Int) ≤ b.toNat := by omega
      have d2 : (48 : Int) ≤ b.toNat := by omega
      have d3 : (b.toNat : Int) ≤ 57 := by omega
      clear c1 c2 hb
      go_enter Tryz.func30, Tryz.ntmps30
      go_wp2
      go_ret
      exact ⟨rfl, rfl⟩
    · have d1 : ¬ (65 : Int) ≤ b.toNat := by omega
      have d2 : ¬ (48 : Int) ≤ b.toNat := by omega
      have t1 : ((b.toNat : Int) == 45) = true := by rw [c1]; rfl
      clear c1 hb
      go_enter Tryz.func30, Tryz.ntmps30
      go_wp2
      go_ret
      exact ⟨rfl, rfl⟩
/-- All of the first k bytes are a name's. -/
def Sg (s : ByteArray) (k : Nat) : Prop := ∀ b ∈ s.data.toList.take k, sgn b = true
set_option maxRecDepth 20000 in
theorem name_any (s : ByteArray) (hs : s.size ≤ 1000) (w : World) : Calls Tryz.prog 23 #[.string s] w fun r w' => r = .returned (.bool (nmB s.data.toList)) ∧ w = w' := by
  have HS := Lib.hid hs
  go_enter Tryz.func23, Tryz.ntmps23
  go_wp2_with fail
  go_loop [3] (fun v => ∃ k : Nat, k ≤ s.size ∧ v = .int .i64 k ∧ Hid (Sg s k)) (fun v => s.size - (intOf v).toNat)
  case atStart => exact ⟨0, Nat.zero_le _, rfl, Lib.hid (fun b h => by simp at h)⟩
  case round =>
    obtain ⟨k, hk, rfl, hg⟩ := hrel
    by_cases h : k < s.size
    · have h' : (k : Int) < s.size := by omega
      have HB := Lib.hid (fun W => sign_any (s[k]'h) W)
      rcases hb : sgn (s[k]'h) with _ | _
      · rw [hb] at HB
        have e : nmB s.data.toList = false := decide_eq_false (fun x => by
          have := x.1 (s[k]'h) (by rw [← take_size s]; exact List.mem_of_mem_take (i := k + 1) (by rw [List.take_take, Nat.min_eq_left (by omega), take_at h]; simp))
          rw [hb] at this; cases this)
        have HE := Lib.hid e
        clear e hb hg
        go_wp2_with (go_at_call 30; with_reducible refine (HB.out _).mono ?_; rintro r w' ⟨rfl, rfl⟩)
        go_ret
        exact ⟨by rw [HE.out]; rfl, rfl⟩
      · rw [hb] at HB
        have HN : Hid (Sg s (k + 1)) := Lib.hid (fun b hm => by
          rw [take_at h] at hm
          rcases List.mem_append.1 hm with hm | hm
          · exact hg.out b hm
          · have : b = s[k]'h := by simpa using hm
            subst this; exact hb)
        clear hb hg
        go_wp2_with (go_at_call 30; with_reducible refine (HB.out _).mono ?_; rintro r w' ⟨rfl, rfl⟩)
        go_round
        case rel => exact ⟨k + 1, by omega, by go_num, HN⟩
        case measure => simp [intOf]; omega
    · obtain rfl : k = s.size := by omega
      have hg' := hg.out
      unfold Sg at hg'
      rw [take_size] at hg'
      have e : nmB s.data.toList = (decide ((1 : Int) ≤ s.size) && decide ((s.size : Int) ≤ 24)) := by
        unfold nmB
        rw [← Bool.decide_and]
        congr 1
        apply propext
        rw [len_list]
        constructor
        · intro x; omega
        · intro x; exact ⟨hg', by omega, by omega⟩
      have HE := Lib.hid e
      clear e hg' hg
      by_cases c1 : (1 : Int) ≤ s.size
      · go_wp2_with fail
        go_ret
        exact ⟨by rw [HE.out, decide_eq_true c1]; simp, rfl⟩
      · have HZ := Lib.hid (decide_eq_false c1)
        go_wp2_with fail
        go_ret
        exact ⟨by rw [HE.out, HZ.out]; rfl, rfl⟩
set_option maxRecDepth 20000 in
theorem fine_any (s : ByteArray) (hs : s.size ≤ 1000) (w : World) : Calls Tryz.prog 47 #[.string s] w fun r w' => r = .returned (.bool (fineB s.data.toList)) ∧ Below w.heap.size w w' := by
  have HS := Lib.hid hs
  go_enter Tryz.func47, Tryz.ntmps47
  go_wp2_with fail
  go_loopw [3, 4] (fun v i wr => ∃ k : Nat, k ≤ s.size ∧ i = .int .i64 k ∧ Hid (OwnB wr w.heap.size v ((s.data.toList.take k).map sp)) ∧ Hid (Bl w wr)) (fun _ i _ => s.size - (intOf i).toNat)
  case atStart => exact ⟨0, Nat.zero_le _, rfl, Lib.hid (OwnB.nil _ _), Lib.hid (Bl.refl w)⟩
  case round =>
    obtain ⟨k, hk, rfl, ho, hb⟩ := hrel
    by_cases h : k < s.size
    · have h' : (k : Int) < s.size := by omega
      have hst : (s.data.toList.take (k + 1)).map sp = (s.data.toList.take k).map sp ++ [sp (s[k]'h)] := by rw [take_at h, List.map_append, List.map_singleton]
      by_cases c1 : (s[k]'h).toNat = 10
      · have e : sp (s[k]'h) = 32 := if_pos c1
        obtain ⟨v', w', ra, ro, rb⟩ := append_byte ho.out hb.out 32 (z := 32) rfl (by rw [List.length_map, List.length_take, len_list]; omega)
        rw [e] at hst
        rw [← hst] at ro
        have HA := Lib.hid ra
        have RO := Lib.hid ro
        have RB := Lib.hid rb
        clear ra ro rb hst e
        go_wp2_with (at_builtin; refine Byt.wpList_append_run rfl (.tmp 21) (.tmp 22) 76 76 rfl _ _ rfl rfl v' w' HA.out ?_)
        go_roundw
        case rel => exact ⟨k + 1, by omega, by go_num, RO, RB⟩
        case measure => simp [intOf]; omega
      · have e : sp (s[k]'h) = s[k]'h := if_neg c1
        obtain ⟨v', w', ra, ro, rb⟩ := append_byte ho.out hb.out (s[k]'h) (z := ((s[k]'h).toNat : Int)) rfl (by rw [List.length_map, List.length_take, len_list]; omega)
        rw [e] at hst
        rw [← hst] at ro
        have HA := Lib.hid ra
        have RO := Lib.hid ro
        have RB := Lib.hid rb
        have t1 : (((s[k]'h).toNat : Int) != 10) = true := by simp; omega
        clear ra ro rb hst e c1
        go_wp2_with (at_builtin; refine Byt.wpList_append_run rfl (.tmp 15) (.tmp 19) 76 76 rfl _ _ rfl rfl v' w' HA.out ?_)
        go_roundw
        case rel => exact ⟨k + 1, by omega, by go_num, RO, RB⟩
        case measure => simp [intOf]; omega
    · obtain rfl : k = s.size := by omega
      rw [take_size] at ho
      have hcv := ho.out.text
      have hz : (ByteArray.mk (s.data.toList.map sp).toArray).size ≤ 1000 := by rw [size_mk, List.length_map, len_list]; exact HS.out
      have HO := fun W => rodd_any ⟨(s.data.toList.map sp).toArray⟩ hz W
      rw [show (ByteArray.mk (s.data.toList.map sp).toArray).data.toList = s.data.toList.map sp by simp] at HO
      have HO2 := Lib.hid HO
      have e : fineB s.data.toList = (oddI (s.data.toList.map sp) 0 == -1) := by
        unfold fineB
        by_cases h : oddI (s.data.toList.map sp) 0 = -1 <;> simp [h]
      have HE := Lib.hid e
      clear e HO hz
      generalize ByteArray.mk (s.data.toList.map sp).toArray = y at *
      generalize oddI (s.data.toList.map sp) 0 = o at *
      go_wp2_with (go_at_call 53; with_reducible refine (HO2.out _).mono ?_; rintro r w' ⟨rfl, rfl⟩)
      go_ret
      exact ⟨by rw [HE.out]; rfl, hb.out.below⟩
theorem hasN_take {ps : List PP} {k : Nat} (h : k < ps.length) (n : List UInt8) : hasN (ps.take (k + 1)) n = (hasN (ps.take k) n || ps[k].n == n) := by
  unfold hasN
  rw [List.take_succ_eq_append_getElem h, List.any_append]
  simp
theorem tl_beq (a b : ByteArray) : (a.toList == b.toList) = (a.data.toList == b.data.toList) := by rw [ByteArray.toList_eq, ByteArray.toList_eq]
set_option maxRecDepth 20000 in
theorem has_any (T : TypeId) (ps : List PP) (hn : ps.length ≤ 1000) (s : ByteArray) (a : Option Addr) (c : Nat) (w : World) (hr : Rd w (psD T ps) (.slice a ps.length c)) : Calls Tryz.prog 32 #[.slice a ps.length c, .string s] w fun r w' => r = .returned (.bool (hasN ps s.data.toList)) ∧ w = w' := by
  have HR := Lib.hid hr
  clear hr
  go_enter Tryz.func32, Tryz.ntmps32
  go_wp2_with fail
  go_loop [5] (fun v => ∃ k : Nat, k ≤ ps.length ∧ v = .int .i64 k ∧ Hid (hasN (ps.take k) s.data.toList = false)) (fun v => ps.length - (intOf v).toNat)
  case atStart => exact ⟨0, Nat.zero_le _, rfl, Lib.hid rfl⟩
  case round =>
    obtain ⟨k, hk, rfl, hq⟩ := hrel
    by_cases h : k < ps.length
    · have h' : (k : Int) < ps.length := by omega
      obtain ⟨b, off, rfl, c0, -⟩ := param_at HR.out h
      have ht := hasN_take h s.data.toList
      have tb := tl_beq ⟨ps[k].n.toArray⟩ s
      rw [show (ByteArray.mk ps[k].n.toArray).data.toList = ps[k].n by simp] at tb
      rcases hb : (ps[k].n == s.data.toList) with _ | _
      · rw [hb] at tb
        have HN : Hid (hasN (ps.take (k + 1)) s.data.toList = false) := Lib.hid (ht.trans (by rw [hq.out, hb]; rfl))
        clear hb ht hq
        generalize ByteArray.mk ps[k].n.toArray = nm at *
        go_wp2_with fail
        go_round
        case rel => exact ⟨k + 1, by omega, by go_num, HN⟩
        case measure => simp [intOf]; omega
      · rw [hb] at tb
        have e : hasN ps s.data.toList = true := by
          have h1 : hasN (ps.take (k + 1)) s.data.toList = true := ht.trans (by rw [hb]; simp)
          unfold hasN at h1 ⊢
          rw [List.any_eq_true] at h1 ⊢
          obtain ⟨p, hp, he⟩ := h1
          exact ⟨p, List.mem_of_mem_take hp, he⟩
        have HE := Lib.hid e
        clear hb ht hq e
        generalize ByteArray.mk ps[k].n.toArray = nm at *
        go_wp2_with fail
        go_ret
        exact ⟨by rw [HE.out]; rfl, rfl⟩
    · obtain rfl : k = ps.length := by omega
      rw [List.take_of_length_le (Nat.le_refl _)] at hq
      go_wp2_with fail
      go_ret
      exact ⟨by rw [hq.out]; rfl, rfl⟩
end Go.Proofs.YtndbgdapojkfaaaGreatDoor.Par
