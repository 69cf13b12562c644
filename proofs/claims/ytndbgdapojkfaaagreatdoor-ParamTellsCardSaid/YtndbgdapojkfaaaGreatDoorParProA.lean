/- Contracts of package param: inName, isSmall, Name, place. -/
import Derived.Test.YtndbgdapojkfaaaGreatDoorParRefD
import Derived.Test.YtndbgdapojkfaaaGreatDoorParRefI
set_option linter.unusedVariables false
namespace Go.Proofs.YtndbgdapojkfaaaGreatDoor.Par
open Go.RowKit Go.Deep Go.Proofs.YtndbgdapojkfaaaGreatDoor.Byt Go.Proofs.YtndbgdapojkfaaaGreatDoor.Utf Go.Proofs.YtndbgdapojkfaaaGreatDoor.Tre Go.Proofs.YtndbgdapojkfaaaGreatDoor.Txt

theorem inname_any (b : UInt8) (w : World) : Calls Tryz.prog 41 #[.int .u8 b.toNat] w fun r w' => r = .returned (.bool (sgn b)) ∧ w = w' := by
  have hb := b.toNat_lt
  rcases hs : sgn b with _ | _
  · have hn := of_decide_eq_false hs
    have t1 : ((b.toNat : Int) == 45) = false := by rw [beq_eq_false_iff_ne]; omega
    by_cases c1 : (65 : Int) ≤ b.toNat
    · have c2 : ¬ (b.toNat : Int) ≤ 90 := by omega
      have c3 : (48 : Int) ≤ b.toNat := by omega
      have c4 : ¬ (b.toNat : Int) ≤ 57 := by omega
      clear hn hs hb
      go_enter Tryz.func41, Tryz.ntmps41
      go_wp2
      go_ret
      exact ⟨rfl, rfl⟩
    · by_cases c3 : (48 : Int) ≤ b.toNat
      · have c4 : ¬ (b.toNat : Int) ≤ 57 := by omega
        clear hn hs hb
        go_enter Tryz.func41, Tryz.ntmps41
        go_wp2
        go_ret
        exact ⟨rfl, rfl⟩
      · clear hn hs hb
        go_enter Tryz.func41, Tryz.ntmps41
        go_wp2
        go_ret
        exact ⟨rfl, rfl⟩
  · have hn := of_decide_eq_true hs
    clear hs
    rcases hn with ⟨c1, c2⟩ | ⟨c1, c2⟩ | c1
    · have d1 : (65 : Int) ≤ b.toNat := by omega
      have d2 : (b.toNat : Int) ≤ 90 := by omega
      clear c1 c2 hb
      go_enter Tryz.func41, Tryz.ntmps41
      go_wp2
      go_ret
      exact ⟨rfl, rfl⟩
    · have d1 : ¬ (65 : Int) ≤ b.toNat := by omega
      have d2 : (48 : Int) ≤ b.toNat := by omega
      have d3 : (b.toNat : Int) ≤ 57 := by omega
      clear c1 c2 hb
      go_enter Tryz.func41, Tryz.ntmps41
      go_wp2
      go_ret
      exact ⟨rfl, rfl⟩
    · have d1 : ¬ (65 : Int) ≤ b.toNat := by omega
      have d2 : ¬ (48 : Int) ≤ b.toNat := by omega
      have t1 : ((b.toNat : Int) == 45) = true := by rw [c1]; rfl
      clear c1 hb
      go_enter Tryz.func41, Tryz.ntmps41
      go_wp2
      go_ret
      exact ⟨rfl, rfl⟩
/-- A small letter. -/
def sml (b : UInt8) : Bool := decide (97 ≤ b.toNat ∧ b.toNat ≤ 122)
theorem issmall_any (b : UInt8) (w : World) : Calls Tryz.prog 66 #[.int .u8 b.toNat] w fun r w' => r = .returned (.bool (sml b)) ∧ w = w' := by
  rcases hs : sml b with _ | _
  · have hn := of_decide_eq_false hs
    by_cases c1 : (97 : Int) ≤ b.toNat
    · have c2 : ¬ (b.toNat : Int) ≤ 122 := by omega
      clear hn hs
      go_enter Tryz.func66, Tryz.ntmps66
      go_wp2
      go_ret
      exact ⟨rfl, rfl⟩
    · clear hn hs
      go_enter Tryz.func66, Tryz.ntmps66
      go_wp2
      go_ret
      exact ⟨rfl, rfl⟩
  · obtain ⟨c1, c2⟩ := of_decide_eq_true hs
    have d1 : (97 : Int) ≤ b.toNat := by omega
    have d2 : (b.toNat : Int) ≤ 122 := by omega
    clear hs c1 c2
    go_enter Tryz.func66, Tryz.ntmps66
    go_wp2
    go_ret
    exact ⟨rfl, rfl⟩
set_option maxRecDepth 20000 in
theorem pname_far (s : ByteArray) (hs : s.size ≤ 6000) (w : World) : Calls Tryz.prog 22 #[.string s] w fun r w' => r = .returned (.bool (nmB s.data.toList)) ∧ w = w' := by
  have HS := Lib.hid hs
  go_enter Tryz.func22, Tryz.ntmps22
  go_wp2_with fail
  go_loop [3, 6] (fun _ v => ∃ k : Nat, k ≤ s.size ∧ v = .int .i64 k ∧ Hid (Sg s k)) (fun _ v => s.size - (intOf v).toNat)
  case atStart => exact ⟨0, Nat.zero_le _, rfl, Lib.hid (fun b h => by simp at h)⟩
  case round =>
    obtain ⟨k, hk, rfl, hg⟩ := hrel
    by_cases h : k < s.size
    · have h' : (k : Int) < s.size := by omega
      have HB := Lib.hid (fun W => inname_any (s[k]'h) W)
      rcases hb : sgn (s[k]'h) with _ | _
      · rw [hb] at HB
        have e : nmB s.data.toList = false := decide_eq_false (fun x => by
          have := x.1 (s[k]'h) (by rw [← take_size s]; exact List.mem_of_mem_take (i := k + 1) (by rw [List.take_take, Nat.min_eq_left (by omega), take_at h]; simp))
          rw [hb] at this; cases this)
        have HE := Lib.hid e
        clear e hb hg
        go_wp2_with (go_at_call 41; with_reducible refine (HB.out _).mono ?_; rintro r w' ⟨rfl, rfl⟩)
        go_ret
        exact ⟨by rw [HE.out]; rfl, rfl⟩
      · rw [hb] at HB
        have HN : Hid (Sg s (k + 1)) := Lib.hid (fun b hm => by
          rw [take_at h] at hm
          rcases List.mem_append.1 hm with hm | hm
          · exact hg.out b hm
          · have : b = s[k]'h := by simpa using hm
            subst this; exact hb)
        clear hb hg
        go_wp2_with (go_at_call 41; with_reducible refine (HB.out _).mono ?_; rintro r w' ⟨rfl, rfl⟩)
        go_round
        case rel => exact ⟨k + 1, by omega, by go_num, HN⟩
        case measure => simp [intOf]; omega
    · obtain rfl : k = s.size := by omega
      have hg' := hg.out
      unfold Sg at hg'
      rw [take_size] at hg'
      by_cases c0 : s.size = 0
      · have he : s.toList.isEmpty = true := by rw [ByteArray.toList_eq]; have := len_list s; rw [c0] at this; rw [List.length_eq_zero_iff.1 this]; rfl
        have e : nmB s.data.toList = false := decide_eq_false (fun x => by have := x.2.1; rw [len_list] at this; omega)
        have HE := Lib.hid e
        clear e hg' hg c0
        go_wp2_with fail
        go_ret
        exact ⟨by rw [HE.out]; rfl, rfl⟩
      · have he : s.toList.isEmpty = false := by
          rw [ByteArray.toList_eq]
          rcases hl : s.data.toList with _ | ⟨x, t⟩
          · exact absurd (by rw [← len_list, hl]; rfl) c0
          · rfl
        have e : nmB s.data.toList = decide ((s.size : Int) ≤ 24) := by
          unfold nmB
          congr 1
          apply propext
          rw [len_list]
          constructor
          · intro x; omega
          · intro x; exact ⟨hg', by omega, by omega⟩
        have HE := Lib.hid e
        clear e hg' hg c0
        go_wp2_with fail
        go_ret
        exact ⟨by rw [HE.out]; rfl, rfl⟩
theorem pname_any' (s : ByteArray) (hs : s.size ≤ 1000) (w : World) : Calls Tryz.prog 22 #[.string s] w fun r w' => r = .returned (.bool (nmB s.data.toList)) ∧ w = w' := pname_far s (by omega) w
theorem pname_any (s : ByteArray) (hs : s.size ≤ 1000) (w : World) : Calls Tryz.prog 22 #[.string s] w fun r w' => r = .returned (.bool (nmB s.data.toList)) ∧ Below w.heap.size w w' :=
  (pname_any' s hs w).mono fun r w' ⟨h1, h2⟩ => ⟨h1, h2 ▸ Below.refl _ _⟩
/-- Where the first one of a name stands, or -1. -/
def plc (ps : List PP) (n : List UInt8) : Int := match ps.findIdx? (fun p => p.n == n) with | some k => k | none => -1
theorem plc_none {ps : List PP} {n : List UInt8} (h : hasN ps n = false) : plc ps n = -1 := by
  unfold plc
  rw [List.findIdx?_eq_none_iff.2 (fun p hp => by
    unfold hasN at h
    rw [List.any_eq_false] at h
    simpa using h p hp)]
theorem plc_at {ps : List PP} {n : List UInt8} {k : Nat} (h : k < ps.length) (h1 : hasN (ps.take k) n = false) (h2 : (ps[k].n == n) = true) : plc ps n = k := by
  unfold plc
  rw [List.findIdx?_eq_some_iff_getElem.2 ⟨h, h2, fun j hj => by
    unfold hasN at h1
    rw [List.any_eq_false] at h1
    have := h1 (ps[j]'(by omega)) (List.mem_take_iff_getElem.2 ⟨j, by omega, rfl⟩)
    simpa using this⟩]
theorem plc_neg {ps : List PP} {n : List UInt8} (h : hasN ps n = true) : 0 ≤ plc ps n := by
  unfold plc
  split
  · omega
  · rename_i he
    rw [List.findIdx?_eq_none_iff] at he
    unfold hasN at h
    rw [List.any_eq_true] at h
    obtain ⟨p, hp, e⟩ := h
    exact absurd e (by have := he p hp; simpa using this)
/-- The first one of a name is ahead of a place just if one of those ahead has it. -/
theorem plc_lt {ps : List PP} {k : Nat} (h : k < ps.length) : decide (plc ps ps[k].n < (k : Int)) = hasN (ps.take k) ps[k].n := by
  rcases hh : hasN (ps.take k) ps[k].n with _ | _
  · rw [plc_at h hh (by simp)]
    exact decide_eq_false (by omega)
  · apply decide_eq_true
    unfold plc
    split
    · rename_i j hj
      rw [List.findIdx?_eq_some_iff_getElem] at hj
      obtain ⟨h1, h2, h3⟩ := hj
      unfold hasN at hh
      rw [List.any_eq_true] at hh
      obtain ⟨p, hp, e⟩ := hh
      obtain ⟨i, hi, rfl⟩ := List.mem_take_iff_getElem.1 hp
      rcases Nat.lt_or_ge i j with h4 | h4
      · exact absurd e (h3 i h4)
      · omega
    · omega
set_option maxRecDepth 20000 in
theorem place1_any (m n : ByteArray) (a : Option Addr) (c1 c2 B : Nat) (w : World) (hB : B < w.heap.size) (hc : w.cell? ⟨B, 0, none⟩ = some (.string n)) :
    Calls Tryz.prog 63 #[.agg #[.string m, .slice a c1 c2], .pointer (some ⟨B, 0, none⟩)] w fun r w' => r = .returned (.bool (m.toList == n.toList)) ∧ Below w.heap.size w w' := by
  have Z0 := Lib.hid (Tre.Blk.new w 46 [.string m, .slice a c1 c2])
  have x0 := Z0.out.cell (i := 0) rfl
  have x1 : (w.alloc (.cells #[.string m, .slice a c1 c2] 46)).cell? ⟨B, 0, none⟩ = some (.string n) := ((new1 w _).cell (p := ⟨B, 0, none⟩) hB).trans hc
  have HB := Lib.hid (new1 w (.cells #[.string m, .slice a c1 c2] 46))
  clear hc
  go_enter Tryz.func63, Tryz.ntmps63
  go_wp2_with fail
  go_ret
  exact ⟨rfl, HB.out⟩
set_option maxRecDepth 20000 in
theorem indexfunc_any (ps : List PP) (hn : ps.length ≤ 1000) (n : ByteArray) (B : Nat) (a : Option Addr) (c : Nat) (w : World) (hB : B < w.heap.size) (hc : w.cell? ⟨B, 0, none⟩ = some (.string n)) (hr : Rd w (psD 46 ps) (.slice a ps.length c)) :
    Calls Tryz.prog 62 #[.slice a ps.length c, .func (.func 63) #[] #[.pointer (some ⟨B, 0, none⟩)]] w fun r w' => r = .returned (.int .i64 (plc ps n.data.toList)) ∧ Below w.heap.size w w' := by
  have HR := Lib.hid hr
  have HC := Lib.hid hc
  have HBB := Lib.hid hB
  clear hr hc hB
  go_enter Tryz.func62, Tryz.ntmps62
  go_wp2_with fail
  go_loopw [5, 8] (fun _ v wr => ∃ k : Nat, k ≤ ps.length ∧ v = .int .i64 k ∧ Hid (hasN (ps.take k) n.data.toList = false) ∧ Hid (Bl w wr)) (fun _ v _ => ps.length - (intOf v).toNat)
  case atStart => exact ⟨0, Nat.zero_le _, rfl, Lib.hid rfl, Lib.hid (Bl.refl w)⟩
  case round =>
    obtain ⟨k, hk, rfl, hq, hb⟩ := hrel
    by_cases h : k < ps.length
    · have h' : (k : Int) < ps.length := by omega
      obtain ⟨b, off, rfl, c0, a1, d1, c1, -⟩ := param_at (HR.out.call hb.out.below) h
      have ht := hasN_take h n.data.toList
      have tb := tl_beq ⟨ps[k].n.toArray⟩ n
      rw [show (ByteArray.mk ps[k].n.toArray).data.toList = ps[k].n by simp] at tb
      have HP := Lib.hid (fun (m : ByteArray) (W : World) (hW : Bl w W) => place1_any m n a1 ps[k].v.length d1 B W (Nat.lt_of_lt_of_le HBB.out hW.le) ((hW.below.cell (p := ⟨B, 0, none⟩) HBB.out).trans HC.out))
      have HPL := Lib.hid (fun x y => plc_at (n := n.data.toList) h x y)
      rcases hb1 : (ps[k].n == n.data.toList) with _ | _
      · rw [hb1] at tb
        have HN : Hid (hasN (ps.take (k + 1)) n.data.toList = false) := Lib.hid (ht.trans (by rw [hq.out, hb1]; rfl))
        have TB := Lib.hid tb
        clear hb1 ht hq tb HPL
        generalize ByteArray.mk ps[k].n.toArray = nm at *
        have HP2 := Lib.hid (HP.out nm wr hb.out)
        rw [TB.out] at HP2
        go_wp2_with (go_at_call 63; with_reducible refine (HP2.out).mono ?_; rintro r w1 ⟨rfl, hbw⟩; have HBW := Lib.hid hbw; clear hbw)
        go_roundw
        case rel => exact ⟨k + 1, by omega, by go_num, HN, Lib.hid (hb.out.call HBW.out)⟩
        case measure => simp [intOf]; omega
      · rw [hb1] at tb
        have HX := Lib.hid (HPL.out hq.out hb1)
        have TB := Lib.hid tb
        clear hb1 ht hq tb HPL
        generalize ByteArray.mk ps[k].n.toArray = nm at *
        have HP2 := Lib.hid (HP.out nm wr hb.out)
        rw [TB.out] at HP2
        go_wp2_with (go_at_call 63; with_reducible refine (HP2.out).mono ?_; rintro r w1 ⟨rfl, hbw⟩; have HBW := Lib.hid hbw; clear hbw)
        go_ret
        exact ⟨by rw [HX.out]; rfl, (hb.out.call HBW.out).below⟩
    · obtain rfl : k = ps.length := by omega
      rw [List.take_of_length_le (Nat.le_refl _)] at hq
      have HX := Lib.hid (plc_none hq.out)
      go_wp2_with fail
      go_ret
      exact ⟨by rw [HX.out]; rfl, hb.out.below⟩
set_option maxRecDepth 20000 in
theorem pplace_any (ps : List PP) (hn : ps.length ≤ 1000) (n : ByteArray) (a : Option Addr) (c : Nat) (w : World) (hr : Rd w (psD 46 ps) (.slice a ps.length c)) :
    Calls Tryz.prog 39 #[.slice a ps.length c, .string n] w fun r w' => r = .returned (.int .i64 (plc ps n.data.toList)) ∧ Below w.heap.size w w' := by
  have HI := indexfunc_any ps hn n w.heap.size a c (w.alloc (.cells #[.string n] 9)) (by simp) ((Tre.Blk.new w 9 [.string n]).cell (i := 0) rfl) (hr.call (new1 w _))
  have HI2 := Lib.hid HI
  have HB := Lib.hid (Bl.refl w |>.alloc (.cells #[.string n] 9))
  clear HI hr
  go_enter Tryz.func39, Tryz.ntmps39
  go_wp2_with (go_at_call 62; with_reducible refine (HI2.out).mono ?_; rintro r w1 ⟨rfl, hbw⟩; have HBW := Lib.hid hbw; clear hbw)
  go_ret
  exact ⟨rfl, (HB.out.call HBW.out).below⟩
end Go.Proofs.YtndbgdapojkfaaaGreatDoor.Par
