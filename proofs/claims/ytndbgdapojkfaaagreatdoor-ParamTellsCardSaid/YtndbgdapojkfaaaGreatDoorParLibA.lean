/- Contracts of the library that package param calls: at one byte (Index, Contains, HasPrefix, CutPrefix), strings.Replace of LFs by blanks. -/
import Derived.Test.YtndbgdapojkfaaaGreatDoorParRefI
import Derived.Test.YtndbgdapojkfaaaGreatDoorBld
import Derived.Test.YtndbgdapojkfaaaGreatDoorUtfPro
import Derived.Laws.DeepStrings4
import Derived.Lib.MinMax
set_option linter.unusedVariables false
namespace Go.Proofs.YtndbgdapojkfaaaGreatDoor.Par
open Go.RowKit Go.Deep Go.Proofs.YtndbgdapojkfaaaGreatDoor.Byt Go.Proofs.YtndbgdapojkfaaaGreatDoor.Utf Go.Proofs.YtndbgdapojkfaaaGreatDoor.Tre Go.Proofs.YtndbgdapojkfaaaGreatDoor.Txt Go.Proofs.YtndbgdapojkfaaaGreatDoor.Bld

/-- Where the first byte of a kind stands, or -1. -/
def ixP (f : UInt8 → Bool) (L : List UInt8) : Int := if pre f L = L.length then -1 else (pre f L : Int)
theorem ixP_cons (f : UInt8 → Bool) (b : UInt8) (t : List UInt8) : ixP f (b :: t) = if f b = true then 0 else if ixP f t == -1 then -1 else ixP f t + 1 := by
  have hl := pre_le f t
  unfold ixP
  by_cases hb : f b = true
  · rw [if_pos hb]
    have e : pre f (b :: t) = 0 := by rw [pre, if_pos hb]
    rw [e, if_neg (by simp)]
    rfl
  · rw [if_neg hb]
    have e : pre f (b :: t) = 1 + pre f t := by rw [pre, if_neg hb]
    rw [e]
    by_cases h : pre f t = t.length
    · rw [if_pos (by rw [List.length_cons]; omega), if_pos h]; rfl
    · rw [if_neg (by rw [List.length_cons]; omega), if_neg h, if_neg (by rw [beq_iff_eq]; omega)]
      omega
theorem ib_ix (c : UInt8) (f : UInt8 → Bool) (hf : ∀ b, f b = (b == c)) : ∀ L : List UInt8, Lib.indexByte L c = ixP f L
  | [] => rfl
  | b :: t => by rw [ixP_cons, ← ib_ix c f hf t, hf b]; rfl
theorem ia_ix (cs : List UInt8) (f : UInt8 → Bool) (hf : ∀ b, f b = cs.contains b) : ∀ L : List UInt8, Lib.indexAny L cs = ixP f L
  | [] => rfl
  | b :: t => by rw [ixP_cons, ← ia_ix cs f hf t, hf b]; rfl
theorem nat_beq (b c : UInt8) : decide (b.toNat = c.toNat) = (b == c) := by
  by_cases h : b = c
  · subst h; simp
  · have h2 : ¬ b.toNat = c.toNat := fun e => h (UInt8.toNat_inj.1 e)
    rw [decide_eq_false h2, beq_eq_false_iff_ne.2 h]
theorem quo_ib (L : List UInt8) : Lib.indexByte L 34 = ixP quo L := ib_ix 34 quo (fun b => nat_beq b 34) L
def lf (b : UInt8) : Bool := decide (b.toNat = 10)
theorem lf_ib (L : List UInt8) : Lib.indexByte L 10 = ixP lf L := ib_ix 10 lf (fun b => nat_beq b 10) L
theorem stp_has (b : UInt8) : stp b = ([44, 58, 59] : List UInt8).contains b := by
  unfold stp
  rw [show ([44, 58, 59] : List UInt8).contains b = (b == 44 || (b == 58 || (b == 59 || false))) from rfl, ← nat_beq b 44, ← nat_beq b 58, ← nat_beq b 59]
  show decide (b.toNat = 44 ∨ b.toNat = 58 ∨ b.toNat = 59) = (decide (b.toNat = 44) || (decide (b.toNat = 58) || (decide (b.toNat = 59) || false)))
  by_cases h1 : b.toNat = 44 <;> by_cases h2 : b.toNat = 58 <;> by_cases h3 : b.toNat = 59 <;> simp [h1, h2, h3]
theorem stp_ia (L : List UInt8) : Lib.indexAny L [44, 58, 59] = ixP stp L := ia_ix _ stp stp_has L
/-- One byte, among those that end a value. -/
theorem ends_ib (b : UInt8) : decide (0 ≤ Lib.indexByte [44, 58, 59] b) = stp b := by
  rw [stp_has, Lib.contains_iff_indexByte]

/-- LFs of a text are counted. -/
theorem lf_count : ∀ L : List UInt8, (Lib.countByte L 10 = 0 ↔ pre lf L = L.length) ∧ (pre lf L < L.length → Lib.countByte L 10 = 1 + Lib.countByte (L.drop (pre lf L + 1)) 10)
  | [] => ⟨⟨fun _ => rfl, fun _ => rfl⟩, fun h => absurd h (by decide)⟩
  | b :: t => by
    obtain ⟨h1, h2⟩ := lf_count t
    have hl := pre_le lf t
    unfold Lib.countByte at *
    rw [List.count_cons, ← nat_beq b 10]
    by_cases hb : lf b = true
    · have e : pre lf (b :: t) = 0 := by rw [pre, if_pos hb]
      have hb' : decide (b.toNat = (10 : UInt8).toNat) = true := hb
      rw [e, hb']
      exact ⟨by simp, fun _ => by simp [Nat.add_comm]⟩
    · have e : pre lf (b :: t) = pre lf t + 1 := by rw [pre, if_neg hb]; omega
      have hb' : decide (b.toNat = (10 : UInt8).toNat) = false := by
        have : ¬ decide (b.toNat = (10 : UInt8).toNat) = true := hb
        simpa using this
      rw [e, hb']
      refine ⟨by simp only [List.length_cons]; rw [if_neg (by decide)]; omega, fun h => ?_⟩
      rw [List.length_cons] at h
      rw [if_neg (by decide), List.drop_succ_cons]
      have := h2 (by omega)
      omega
theorem sp_pre {L : List UInt8} {k : Nat} (hk : k ≤ pre lf L) : (L.take k).map sp = L.take k := by
  conv => rhs; rw [← List.map_id (L.take k)]
  refine List.map_congr_left fun b hb => ?_
  have := pre_none lf L b (by
    rw [← Nat.min_eq_left hk, ← List.take_take] at hb
    exact List.mem_of_mem_take hb)
  exact if_neg (of_decide_eq_false this)
/-- A text whose LFs are blanks, up to the first LF and over it. -/
theorem sp_step {L : List UInt8} (h : pre lf L < L.length) : (L.take (pre lf L + 1)).map sp = L.take (pre lf L) ++ [32] := by
  have hh := pre_hit lf L h
  rw [List.take_succ_eq_append_getElem h, List.map_append, sp_pre (Nat.le_refl _), List.map_singleton]
  congr 2
  exact if_pos (of_decide_eq_true hh)
theorem sp_none {L : List UInt8} (h : pre lf L = L.length) : L.map sp = L := by
  have := sp_pre (L := L) (k := L.length) (by omega)
  rwa [List.take_of_length_le (Nat.le_refl _)] at this
theorem count_le (L : List UInt8) : Lib.countByte L 10 ≤ L.length := List.count_le_length
theorem tail_list' (s : ByteArray) (i : Nat) : (s.extract i s.size).data.toList = s.data.toList.drop i := by
  simp
  exact List.take_of_length_le (by simp)
theorem bu_grow (w : World) (n : Nat) (hn : n ≤ 281474976710656) : Calls Tryz.prog 76 #[.pointer (some ⟨w.heap.size, 0, none⟩), .int .i64 n] (w.alloc (.cells #[.pointer none, .slice none 0 0] 78)) fun r w' => r = .returned (.tuple #[]) ∧ Bu w w' [] := by
  refine (shGrow w.heap.size w.heap.size n _ (Nat.le_refl _) (heap_alloc_new w _) (by simp) hn).mono ?_
  rintro r w' ⟨rfl, h1, h2⟩
  exact ⟨rfl, (new1 w _).trans h2, .inr h1⟩
set_option maxRecDepth 20000 in
set_option maxHeartbeats 4000000 in
theorem replace_any (s : ByteArray) (hs : s.size ≤ 100000) (w : World) : Calls Tryz.prog 79 #[.string s, .string ⟨#[10]⟩, .string ⟨#[32]⟩, .int .i64 (-1)] w fun r w' => r = .returned (.string ⟨(s.data.toList.map sp).toArray⟩) ∧ Below w.heap.size w w' := by
  have HS := Lib.hid hs
  have HC := Lib.hid (fun W => (shCount1 s 10 W).mono fun r w' h => (⟨h.1, h.2.symm⟩ : r = .returned (.int .i64 (Lib.countByte s.data.toList 10)) ∧ W = w'))
  have hcl := count_le s.data.toList
  rw [len_list] at hcl
  have HCN := Lib.hid (lf_count s.data.toList)
  by_cases c0 : Lib.countByte s.data.toList 10 = 0
  · rw [c0] at HC
    have HE := Lib.hid (sp_none (HCN.out.1.1 c0))
    clear hcl c0
    go_enter Tryz.func79, Tryz.ntmps79
    go_wp2_with (go_at_call 86; with_reducible refine (HC.out _).mono ?_; rintro r w' ⟨rfl, rfl⟩)
    go_ret
    exact ⟨by rw [HE.out, mk_list]; rfl, Below.refl _ _⟩
  · have c1 : ((Lib.countByte s.data.toList 10 : Int) == 0) = false := by rw [beq_eq_false_iff_ne]; omega
    have HZ := Lib.hid (show Lib.countByte (s.data.toList.drop 0) 10 = Lib.countByte s.data.toList 10 by rw [List.drop_zero])
    generalize Lib.countByte s.data.toList 10 = n at *
    clear c0
    have HB0 := Lib.hid (Bu.start w)
    have HG := Lib.hid (fun z (hz : z = (s.size : Int)) => (hz ▸ bu_grow w s.size (by omega) : Calls Tryz.prog 76 #[.pointer (some ⟨w.heap.size, 0, none⟩), .int .i64 z] (w.alloc (.cells #[.pointer none, .slice none 0 0] 78)) fun r w' => r = .returned (.tuple #[]) ∧ Bu w w' []))
    go_enter Tryz.func79, Tryz.ntmps79
    go_wp2_with (first
      | (go_at_call 86; with_reducible refine (HC.out _).mono ?_; rintro r w' ⟨rfl, rfl⟩)
      | (go_at_call 76; refine (HG.out _ (by simp)).mono ?_; rintro r w1 ⟨rfl, hbu⟩; have HBU := Lib.hid hbu; clear hbu))
    clear HG HC HB0 HCN
    have H0 : Hid (Bu w w1 ((s.data.toList.take 0).map sp)) := HBU
    clear HBU
    go_loopw [11, 12, 53] (fun a _ b wr => ∃ i st : Nat, b = .int .i64 i ∧ a = .int .i64 st ∧ st ≤ s.size ∧ i ≤ n ∧ Hid (Lib.countByte (s.data.toList.drop st) 10 + i = n) ∧ Hid (Bu w wr ((s.data.toList.take st).map sp))) (fun _ _ b _ => n - (intOf b).toNat)
    case atStart => exact ⟨0, 0, rfl, rfl, Nat.zero_le _, Nat.zero_le _, HZ, H0⟩
    case round =>
      obtain ⟨i, st, rfl, rfl, hst, hin, hcn, hb⟩ := hrel
      have hst' : (st : Int) ≤ s.size := by omega
      have hbs := hb.out.bel.size
      have hlen : (s.data.toList.drop st).length = s.size - st := by rw [List.length_drop, len_list]
      have hal : ((s.data.toList.take st).map sp).length = st := by rw [List.length_map, List.length_take, len_list]; omega
      by_cases h : i < n
      · have h' : (i : Int) < n := by omega
        have hlf : pre lf (s.data.toList.drop st) < (s.data.toList.drop st).length := by
          have h1 := pre_le lf (s.data.toList.drop st)
          have h2 := (lf_count (s.data.toList.drop st)).1.2
          have h3 := hcn.out
          rcases Nat.lt_or_ge (pre lf (s.data.toList.drop st)) (s.data.toList.drop st).length with h4 | h4
          · exact h4
          · have := h2 (by omega); omega
        have hnx := (lf_count (s.data.toList.drop st)).2 hlf
        have hsp := sp_step hlf
        have hix : Lib.indexByte (s.extract st s.size).data.toList 10 = (pre lf (s.data.toList.drop st) : Int) := by
          rw [tail_list', lf_ib, ixP, if_neg (by omega)]
        generalize pre lf (s.data.toList.drop st) = J at *
        have HI := Lib.hid (fun W => (shIndex1 (s.extract st s.size) 10 W).mono fun r w' h => (⟨h.1.trans (by rw [hix]), h.2.symm⟩ : r = .returned (.int .i64 J) ∧ W = w'))
        have hJ : st + J + 1 ≤ s.size := by omega
        have c3 : (st : Int) ≤ (st : Int) + (J : Int) := by omega
        have c4 : (st : Int) + (J : Int) ≤ (s.size : Int) := by omega
        have hmid : (s.extract st (st + J)).data.toList = (s.data.toList.drop st).take J := by simp
        have hz1 : (s.extract st (st + J)).size = J := by rw [ByteArray.size_extract]; omega
        have hnew : (s.data.toList.take (st + J + 1)).map sp = (s.data.toList.take st).map sp ++ (s.extract st (st + J)).data.toList ++ [32] := by
          rw [hmid, Nat.add_assoc, List.take_add, List.map_append, hsp, List.append_assoc]
        have HN := Lib.hid hnew
        have HCN2 : Hid (Lib.countByte (s.data.toList.drop (st + J + 1)) 10 + (i + 1) = n) := Lib.hid (by
          have := hcn.out
          rw [hnx, List.drop_drop] at this
          rw [show st + J + 1 = st + (J + 1) by omega]
          omega)
        have HW1 := Lib.hid (Bld.write_any w wr _ (s.extract st (st + J)) hb.out (by rw [hal, hz1]; have := HS.out; omega))
        have HW2 := Lib.hid (fun W (hW : Bu w W ((s.data.toList.take st).map sp ++ (s.extract st (st + J)).data.toList)) => Bld.write_any w W _ ⟨#[32]⟩ hW (by rw [List.length_append, hal, len_list, hz1]; show st + J + 1 ≤ _; have := HS.out; omega))
        clear hlf hnx hsp hix hmid hnew hal hz1 hlen hcn
        go_wp2_with (first
          | (go_at_call 87; with_reducible refine (HI.out _).mono ?_; rintro r w' ⟨rfl, rfl⟩)
          | (go_at_call 36; with_reducible refine (HW1.out).mono ?_; rintro r w3 ⟨rfl, hbu⟩; have HB1 := Lib.hid hbu; clear hbu)
          | (go_at_call 36; with_reducible refine (HW2.out _ HB1.out).mono ?_; rintro r w4 ⟨rfl, hbu⟩; have HB2 := Lib.hid hbu; clear hbu))
        go_roundw
        case rel => exact ⟨i + 1, st + J + 1, by go_num, by go_num, hJ, by omega, HCN2, Lib.hid (by rw [HN.out]; exact HB2.out)⟩
        case measure => simp [intOf]; omega
      · obtain rfl : i = n := by omega
        have hlf : pre lf (s.data.toList.drop st) = (s.data.toList.drop st).length := (lf_count (s.data.toList.drop st)).1.1 (by have := hcn.out; omega)
        have hfin : (s.data.toList.take st).map sp ++ (s.extract st s.size).data.toList = s.data.toList.map sp := by
          rw [tail_list', ← sp_none hlf, ← List.map_append, List.take_append_drop]
        have HF := Lib.hid hfin
        have HW := Lib.hid (Bld.write_any w wr _ (s.extract st s.size) hb.out (by rw [hal, ByteArray.size_extract]; have := HS.out; omega))
        clear hlf hfin hcn hal hlen
        have HT := Lib.hid (fun W (hW : Bu w W ((s.data.toList.take st).map sp ++ (s.extract st s.size).data.toList)) => Bld.string_any w W _ hW)
        rw [HF.out] at HT
        go_wp2_with (first
          | (go_at_call 36; with_reducible refine (HW.out).mono ?_; rintro r w3 ⟨rfl, hbu⟩; have HB1 := Lib.hid hbu; clear hbu)
          | (go_at_call 38; with_reducible refine (HT.out _ (by rw [← HF.out]; exact HB1.out)).mono ?_; rintro r w4 ⟨rfl, hbw⟩; have HBW := Lib.hid hbw; clear hbw))
        go_ret
        exact ⟨rfl, HBW.out⟩
theorem replaceall_any (s : ByteArray) (hs : s.size ≤ 100000) (w : World) : Calls Tryz.prog 65 #[.string s, .string ⟨#[10]⟩, .string ⟨#[32]⟩] w fun r w' => r = .returned (.string ⟨(s.data.toList.map sp).toArray⟩) ∧ Below w.heap.size w w' := by
  have HR := Lib.hid (replace_any s hs w)
  go_enter Tryz.func65, Tryz.ntmps65
  go_wp2_with (go_at_call 79; with_reducible refine (HR.out).mono ?_; rintro r w' ⟨rfl, hbw⟩; have HBW := Lib.hid hbw; clear hbw)
  go_ret
  exact ⟨rfl, HBW.out⟩
end Go.Proofs.YtndbgdapojkfaaaGreatDoor.Par
