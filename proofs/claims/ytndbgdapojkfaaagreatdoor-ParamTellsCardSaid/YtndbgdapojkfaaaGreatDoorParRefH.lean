/- Contracts of the document's param (errandref17): Find, Same. -/
import Derived.Test.YtndbgdapojkfaaaGreatDoorParRefG
import Derived.Laws.ResultCell
set_option linter.unusedVariables false
namespace Go.Proofs.YtndbgdapojkfaaaGreatDoor.Par
open Go.RowKit Go.Deep Go.Proofs.YtndbgdapojkfaaaGreatDoor.Byt Go.Proofs.YtndbgdapojkfaaaGreatDoor.Utf Go.Proofs.YtndbgdapojkfaaaGreatDoor.Tre Go.Proofs.YtndbgdapojkfaaaGreatDoor.Txt

/-- The parameter of a name, or one that is empty. -/
def fndP (ps : List PP) (n : List UInt8) : PP := (ps.find? fun p => p.n == n).getD ⟨[], []⟩
theorem fndP_at {ps : List PP} {n : List UInt8} {k : Nat} (h : k < ps.length) (h1 : hasN (ps.take k) n = false) (h2 : (ps[k].n == n) = true) : fndP ps n = ps[k] ∧ hasN ps n = true := by
  have hs : ps.take k ++ (ps[k] :: ps.drop (k + 1)) = ps := by rw [← List.drop_eq_getElem_cons h, List.take_append_drop]
  have hf : (ps.take k).find? (fun p => p.n == n) = none := by
    rw [List.find?_eq_none]
    intro x hx
    unfold hasN at h1
    rw [List.any_eq_false] at h1
    exact h1 x hx
  constructor
  · have : ps.find? (fun p => p.n == n) = some ps[k] := by
      rw [← congrArg (fun l => l.find? (fun p : PP => p.n == n)) hs]
      simp only [List.find?_append, hf, List.find?_cons, h2, Option.none_or]
    unfold fndP
    rw [this]; rfl
  · unfold hasN
    rw [List.any_eq_true]
    exact ⟨ps[k], List.getElem_mem h, h2⟩
theorem fndP_none {ps : List PP} {n : List UInt8} (h : hasN ps n = false) : fndP ps n = ⟨[], []⟩ := by
  unfold fndP
  have : ps.find? (fun p => p.n == n) = none := by
    rw [List.find?_eq_none]
    intro x hx
    unfold hasN at h
    rw [List.any_eq_false] at h
    exact h x hx
  rw [this]; rfl
/-- What Find answers. -/
def FndR (w : World) (p : PP) (b : Bool) (r : Ending) (w' : World) : Prop := ∃ a c, r = .returned (.tuple #[.agg #[.string ⟨p.n.toArray⟩, .slice a p.v.length c], .bool b]) ∧ Rd w' (txD (mks p.v)) (.slice a (mks p.v).length c) ∧ Below w.heap.size w w'
set_option maxRecDepth 20000 in
theorem rfind_any (ps : List PP) (hn : ps.length ≤ 1000) (s : ByteArray) (a : Option Addr) (c : Nat) (w : World) (hr : Rd w (psD 49 ps) (.slice a ps.length c)) : Calls Tryz.prog 19 #[.slice a ps.length c, .string s] w (FndR w (fndP ps s.data.toList) (hasN ps s.data.toList)) := by
  have HR := Lib.hid hr
  have HB0 := Lib.hid ((Bl.refl w).alloc (.cells #[.string ⟨#[]⟩, .slice none 0 0] 49))
  clear hr
  go_enter Tryz.func19, Tryz.ntmps19
  go_wp2_with fail
  go_loop [6] (fun v => ∃ k : Nat, k ≤ ps.length ∧ v = .int .i64 k ∧ Hid (hasN (ps.take k) s.data.toList = false)) (fun v => ps.length - (intOf v).toNat)
  case atStart => exact ⟨0, Nat.zero_le _, rfl, Lib.hid rfl⟩
  case round =>
    obtain ⟨k, hk, rfl, hq⟩ := hrel
    by_cases h : k < ps.length
    · have h' : (k : Int) < ps.length := by omega
      obtain ⟨b, off, rfl, e0, a1, d1, e1, hv⟩ := param_at HR.out h
      have c0 := ((new1 w (.cells #[.string ⟨#[]⟩, .slice none 0 0] 49)).cell (p := ⟨b, off + k * 2, none⟩) (Byt.cell_lt e0)).trans e0
      have c1 := ((new1 w (.cells #[.string ⟨#[]⟩, .slice none 0 0] 49)).cell (p := ⟨b, off + k * 2 + 1, none⟩) (Byt.cell_lt e1)).trans e1
      clear e0 e1
      have ht := hasN_take h s.data.toList
      have tb := tl_beq ⟨ps[k].n.toArray⟩ s
      rw [show (ByteArray.mk ps[k].n.toArray).data.toList = ps[k].n by simp] at tb
      rcases hb : (ps[k].n == s.data.toList) with _ | _
      · rw [hb] at tb
        have HN : Hid (hasN (ps.take (k + 1)) s.data.toList = false) := Lib.hid (ht.trans (by rw [hq.out, hb]; rfl))
        clear hb ht hq
        generalize ByteArray.mk ps[k].n.toArray = nm at *
        go_wp2_with fail
        go_round
        case rel => exact ⟨k + 1, by omega, by go_num, HN⟩
        case measure => simp [intOf]; omega
      · rw [hb] at tb
        have HF := Lib.hid (fndP_at h hq.out hb)
        have HV := Lib.hid hv
        clear hb ht hq hv
        generalize hp : ps[k] = p at *
        generalize hnm : ByteArray.mk p.n.toArray = nm at *
        go_wp2_with fail
        refine bodyPost_ret (v := .tuple #[.agg #[.string nm, .slice a1 p.v.length d1], .bool true]) ?_ rfl ?_
        · rw [results_cell_tmp rfl]
          go_simp
        · rw [HF.out.1, HF.out.2]
          exact ⟨a1, d1, by rw [hnm], HV.out.call (new1 _ _), ((Bl.refl w).alloc _).below⟩
    · obtain rfl : k = ps.length := by omega
      rw [List.take_of_length_le (Nat.le_refl _)] at hq
      go_wp2_with fail
      refine bodyPost_ret (v := .tuple #[.agg #[.string ⟨#[]⟩, .slice none 0 0], .bool false]) ?_ rfl ?_
      · rw [results_cell_tmp rfl]
        go_simp
      · rw [fndP_none hq.out, hq.out]
        exact ⟨none, 0, rfl, .nil _ _ _ _, ((Bl.refl w).alloc _).below⟩
end Go.Proofs.YtndbgdapojkfaaaGreatDoor.Par
