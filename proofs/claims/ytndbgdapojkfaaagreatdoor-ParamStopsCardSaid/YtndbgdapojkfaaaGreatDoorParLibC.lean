/- Contracts of the library that package param calls: strings.IndexRune of what is no ASCII, IndexAny and ContainsAny of a comma, a colon and a semicolon, over any text. -/
import Derived.Test.YtndbgdapojkfaaaGreatDoorParLibA
import Derived.Laws.Runes
import Derived.Laws.RangeString
import Derived.WalkMore
import Derived.Lib.OthersKept
import Derived.Deep.LoopGhost
set_option linter.unusedVariables false
namespace Go.Proofs.YtndbgdapojkfaaaGreatDoor.Par
open Go.RowKit Go.Deep Go.Proofs.YtndbgdapojkfaaaGreatDoor.Byt Go.Proofs.YtndbgdapojkfaaaGreatDoor.Utf Go.Proofs.YtndbgdapojkfaaaGreatDoor.Tre Go.Proofs.YtndbgdapojkfaaaGreatDoor.Txt Go.Proofs.YtndbgdapojkfaaaGreatDoor.Bld

set_option maxRecDepth 20000 in
theorem valid_any (r : Int) (w : World) : Calls Tryz.prog 102 #[.int .i32 r] w fun e w' => e = .returned (.bool (Utf8.valid r)) ∧ w = w' := by
  rw [validRune_eq]
  unfold validRune
  by_cases h1 : 0 ≤ r
  · by_cases h2 : r < 55296
    · rw [decide_eq_true (.inl ⟨h1, h2⟩)]
      go_enter Tryz.func102, Tryz.ntmps102
      go_wp2
      go_ret
      exact ⟨rfl, rfl⟩
    · by_cases h3 : 57343 < r
      · by_cases h4 : r ≤ 1114111
        · rw [decide_eq_true (.inr ⟨h3, h4⟩)]
          go_enter Tryz.func102, Tryz.ntmps102
          go_wp2
          go_ret
          exact ⟨rfl, rfl⟩
        · rw [decide_eq_false (by omega)]
          go_enter Tryz.func102, Tryz.ntmps102
          go_wp2
          go_ret
          exact ⟨rfl, rfl⟩
      · rw [decide_eq_false (by omega)]
        go_enter Tryz.func102, Tryz.ntmps102
        go_wp2
        go_ret
        exact ⟨rfl, rfl⟩
  · rw [decide_eq_false (by omega)]
    go_enter Tryz.func102, Tryz.ntmps102
    go_wp2
    go_ret
    exact ⟨rfl, rfl⟩
theorem ib_miss {c : UInt8} : ∀ {l : List UInt8}, (∀ b ∈ l, b ≠ c) → Lib.indexByte l c = -1
  | [], _ => rfl
  | b :: t, h => by
    have ih := ib_miss (fun x hx => h x (List.mem_cons_of_mem _ hx))
    have hb : (b == c) = false := beq_eq_false_iff_ne.2 (h b (List.mem_cons_self ..))
    unfold Lib.indexByte
    rw [hb, ih]
    rfl
def endsT : ByteArray := ⟨#[44, 58, 59]⟩
theorem ends_asc (i : Nat) (h : i < endsT.size) : (endsT[i]'h).toNat < 128 := by
  have h3 : i < 3 := h
  match i, h3 with
  | 0, _ => exact (by decide : (endsT[0]'(by decide)).toNat < 128)
  | 1, _ => exact (by decide : (endsT[1]'(by decide)).toNat < 128)
  | 2, _ => exact (by decide : (endsT[2]'(by decide)).toNat < 128)
set_option maxRecDepth 20000 in
theorem rune_bad (w : World) : Calls Tryz.prog 91 #[.string endsT, .int .i32 65533] w fun e w' => e = .returned (.int .i64 (-1)) ∧ Below w.heap.size w w' := by
  have hz : endsT.size = 3 := rfl
  have HA := Lib.hid ends_asc
  go_enter Tryz.func91, Tryz.ntmps91
  go_wp2_with fail
  generalize endsT = t at *
  go_loopg [5, 6] 3 (fun g _ _ wx => ∃ i : Nat, i + g = 3 ∧ wx = w.iter t i)
  case atStart => exact ⟨0, rfl, rfl⟩
  case round =>
    obtain ⟨i, hig, rfl⟩ := hrel
    cases gk with
    | zero =>
      obtain rfl : i = 3 := by omega
      have hnx := fun ty => run_next_end (P := Tryz.prog) w t 3 ty (by omega)
      go_wp2
      go_ret
      exact ⟨rfl, iter_below _ _ _⟩
    | succ g =>
      have hi : i < t.size := by omega
      have hx := HA.out i hi
      have hnx := fun ty => run_next_ascii (P := Tryz.prog) w t i ty hi hx
      have t1 : (((t[i]'hi).toNat : Int) == 65533) = false := by rw [beq_eq_false_iff_ne]; omega
      generalize (t[i]'hi).toNat = x at *
      go_wp2
      go_roundg g
      case measure => omega
      case rel => exact ⟨i + 1, by omega, rfl⟩
set_option maxRecDepth 20000 in
theorem rune_hi (r : Int) (h : 128 ≤ r) (h2 : r ≠ 65533) (hv : Utf8.valid r = true) (w : World) : Calls Tryz.prog 91 #[.string endsT, .int .i32 r] w fun e w' => e = .returned (.int .i64 (-1)) ∧ Below w.heap.size w w' := by
  have hz : endsT.size = 3 := rfl
  have HA := Lib.hid ends_asc
  obtain ⟨e1, e2, e3⟩ := encode_facts r hv h
  have n1 : ¬ r < 128 := by omega
  have n2 : (r == 65533) = false := beq_eq_false_iff_ne.2 h2
  have HV := Lib.hid (fun W => valid_any r W)
  rw [hv] at HV
  generalize hE : Utf8.encode r = E at *
  have hl := e3 (by omega)
  obtain ⟨L, hL⟩ : ∃ L, E.size = L + 1 := ⟨E.size - 1, by omega⟩
  have hL1 : 1 ≤ L := by omega
  have hL3 : L ≤ 3 := by omega
  have hl2 : 128 ≤ (E[L]'(by omega)).toNat := by
    have : (E[E.size - 1]'(by omega)) = E[L]'(by omega) := by congr 1; omega
    rwa [this] at hl
  have HIB : Hid (∀ W, Calls Tryz.prog 101 #[.string (endsT.extract (L + 1) 3), .int .u8 (E[L]'(by omega)).toNat] W fun r w' => r = .returned (.int .i64 (-1)) ∧ W = w') := Lib.hid (fun W => (Any.strings_IndexByte { shLays152 with } (endsT.extract (L + 1) 3) ((E[L]'(by omega)).toNat : Int) W).mono fun r w' x => (⟨x.1.trans (by rw [show ((E[L]'(by omega)).toNat : Int).toNat.toUInt8 = E[L]'(by omega) by simp, ib_miss (fun b hb e => by
    have hm := mem_extract hb
    obtain ⟨i, hi, rfl⟩ := List.getElem_of_mem hm
    have := ends_asc i (by simpa using hi)
    have e2 : (endsT.data.toList[i]'hi).toNat = (E[L]'(by omega)).toNat := congrArg UInt8.toNat e
    have e3 : (endsT.data.toList[i]'hi) = endsT[i]'(by simpa using hi) := rfl
    rw [e3] at e2
    omega)]), x.2.symm⟩ : r = .returned (.int .i64 (-1)) ∧ W = w'))
  have HL2 := Lib.hid hl2
  clear e3 hl hl2
  have hLs : (E.size : Int) - 1 = L := by omega
  go_enter Tryz.func91, Tryz.ntmps91
  go_wp2_with (go_at_call 102; with_reducible refine (HV.out _).mono ?_; rintro r w' ⟨rfl, rfl⟩)
  go_step3
  go_wp2_with fail
  have HE := Lib.hid hE
  clear hE
  go_loopw [9, 10, 11, 12] (fun a _ _ _ wr => a = .int .i64 L ∧ wr = w) (fun _ _ _ _ _ => 0)
  case atStart => exact ⟨by go_num, rfl⟩
  case round =>
    obtain ⟨rfl, rfl⟩ := hrel
    by_cases h : L < 3
    · have h' : (L : Int) < 3 := by omega
      have hi : L < endsT.size := by omega
      have hx := HA.out L hi
      have hy := HL2.out
      have t1 : (((endsT[L]'hi).toNat : Int) != ((E[L]'(by omega)).toNat : Int)) = true := by simp; omega
      go_wp2_with fail
      go_step3
      go_wp2_with fail
      have l1 : (L : Int) < L + 1 := by omega
      have l2 : (0 : Int) ≤ (L : Int) + 1 := by omega
      have l3 : (L : Int) + 1 ≤ 3 := by omega
      have l4 : IntKind.i64.wrap ((L : Int) + 1) = (L : Int) + 1 := wrap_small _ (by omega) (by omega)
      go_region
      go_wp2_with fail
      go_quiet ((go_at_call 101; exact (HIB.out _).mono fun _ _ x => ⟨x.1, _, x.2.symm⟩))
      go_wp2_with fail
      rw [Exit.noGoto_ret]
      go_wp2_with fail
      rw [Exit.noGoto_ret]
      go_ret
      exact ⟨rfl, (Bl.refl _).drewN _ |>.below⟩
    · have h' : ¬ (L : Int) < 3 := by omega
      go_wp2_with fail
      go_ret
      exact ⟨rfl, Below.refl _ _⟩
set_option maxRecDepth 20000 in
theorem rune_none (r : Int) (h : 128 ≤ r) (h2 : r ≠ 65533) (hv : Utf8.valid r = false) (w : World) : Calls Tryz.prog 91 #[.string endsT, .int .i32 r] w fun e w' => e = .returned (.int .i64 (-1)) ∧ Below w.heap.size w w' := by
  have n1 : ¬ r < 128 := by omega
  have n2 : (r == 65533) = false := beq_eq_false_iff_ne.2 h2
  have HV := Lib.hid (fun W => valid_any r W)
  rw [hv] at HV
  go_enter Tryz.func91, Tryz.ntmps91
  go_wp2_with (go_at_call 102; with_reducible refine (HV.out _).mono ?_; rintro r w' ⟨rfl, rfl⟩)
  go_ret
  exact ⟨rfl, Below.refl _ _⟩
theorem rune_any (r : Int) (h : 128 ≤ r) (w : World) : Calls Tryz.prog 91 #[.string endsT, .int .i32 r] w fun e w' => e = .returned (.int .i64 (-1)) ∧ Below w.heap.size w w' := by
  by_cases h2 : r = 65533
  · subst h2; exact rune_bad w
  · rcases hv : Utf8.valid r with _ | _
    · exact rune_none r h h2 hv w
    · exact rune_hi r h h2 hv w
/-- The bytes of what is no ASCII. -/
theorem sz_hi (L : List UInt8) (h : L ≠ []) (h0 : 128 ≤ at_ L 0) : ∀ j, j < wd L → 128 ≤ at_ L j := by
  intro j hj
  have hw := wd_le L h
  have h4 : j < 4 := by omega
  unfold wd Sz szN loN at hj
  match j, h4 with
  | 0, _ => exact h0
  | 1, _ => repeat' split at hj
            all_goals omega
  | 2, _ => repeat' split at hj
            all_goals omega
  | 3, _ => repeat' split at hj
            all_goals omega
theorem dec_hi (n b0 b1 b2 b3 : Nat) (h : 128 ≤ b0) : 128 ≤ (Lib.decodeN n b0 b1 b2 b3).1 := by
  unfold Lib.decodeN
  rw [if_neg (by omega)]
  repeat' split
  all_goals (simp only; omega)
theorem at_stp {L : List UInt8} {j : Nat} (h : j < L.length) (h2 : 128 ≤ at_ L j) : stp L[j] = false := by
  unfold at_ at h2
  rw [List.getD_eq_getElem?_getD, List.getElem?_eq_getElem h] at h2
  have h3 : 128 ≤ L[j].toNat := h2
  exact decide_eq_false (by omega)
theorem rune_way (s : ByteArray) (i : Nat) (h : i < s.size) : ((s[i]'h).toNat < 128 ∧ (Utf8.decode s i).1 = (s[i]'h).toNat ∧ (Utf8.decode s i).2 = 1) ∨ (128 ≤ (Utf8.decode s i).1 ∧ 1 ≤ (Utf8.decode s i).2 ∧ i + (Utf8.decode s i).2 ≤ s.size ∧ ∀ b ∈ (s.data.toList.drop i).take (Utf8.decode s i).2, stp b = false) := by
  by_cases ha : (s[i]'h).toNat < 128
  · have := decode_ascii s i h ha
    exact .inl ⟨ha, by rw [this], by rw [this]⟩
  · have hd : (Utf8.decode s i).2 = wd (s.data.toList.drop i) := (decode_any s i h).1
    have hne := drop_ne h
    have hw := wd_le _ hne
    have hL : (s.data.toList.drop i).length = s.size - i := by rw [List.length_drop, len_list]
    have h0 : 128 ≤ at_ (s.data.toList.drop i) 0 := by rw [at_first h]; omega
    refine .inr ⟨?_, by omega, by omega, fun b hb => ?_⟩
    · rw [Lib.decode_at s i, get_nat, get_nat, get_nat, get_nat]
      refine dec_hi _ _ _ _ _ ?_
      rw [at_drop, Nat.add_zero] at h0
      exact h0
    · obtain ⟨j, hj, rfl⟩ := List.mem_take_iff_getElem.1 hb
      exact at_stp (by omega) (sz_hi _ hne h0 j (by omega))
/-- The iterator of a range over a text, among other new blocks. -/
structure It (w wx : World) (s : ByteArray) (i : Nat) : Prop where
  bel : Below w.heap.size w wx
  it : wx.heap[w.heap.size]? = some (.stringIter s i)
theorem It.start (w : World) (s : ByteArray) : It w (w.iter s 0) s 0 := ⟨iter_below w s 0, World.iter_heap w s 0⟩
theorem It.step {w wx : World} {s : ByteArray} {i : Nat} (h : It w wx s i) (j : Nat) : It w (wx.iterAt w.heap.size s j) s j := ⟨Lib.below_iterAt h.bel (Nat.le_refl _) s j, Lib.iterAt_heap wx _ s i j h.it⟩
theorem It.call {w wx w' : World} {s : ByteArray} {i : Nat} (h : It w wx s i) (hb : Below wx.heap.size wx w') : It w w' s i := by
  have hl : w.heap.size < wx.heap.size := (Array.getElem?_eq_some_iff.1 h.it).1
  exact ⟨h.bel.trans (hb.mono (by omega)), (hb.block _ hl).trans h.it⟩
theorem pre_far {f : UInt8 → Bool} {L : List UInt8} {i : Nat} (hi : i ≤ L.length) (h : ∀ b ∈ L.take i, f b = false) : pre f L = i + pre f (L.drop i) := by
  conv => lhs; rw [← List.take_append_drop i L]
  rw [pre_app f _ _ h, List.length_take, Nat.min_eq_left hi]
set_option maxRecDepth 20000 in
theorem any_short (s : ByteArray) (hs : s.size ≤ 8) (w : World) : Calls Tryz.prog 84 #[.string s, .string endsT] w fun r w' => r = .returned (.int .i64 (ixP stp s.data.toList)) ∧ Below w.heap.size w w' := by
  have hz : endsT.size = 3 := rfl
  have he : endsT.toList.isEmpty = false := by rw [ByteArray.toList_eq]; rfl
  have h8 : decide ((8 : Int) < (s.size : Int)) = false := decide_eq_false (by omega)
  have HU := Lib.hid (fun W => Any.strings_shouldUseASCIISet { shLays153 with } (s.size : Int) W)
  rw [h8] at HU
  have HR := Lib.hid (fun r (h : 128 ≤ r) W => rune_any r h W)
  have HA : Hid (∀ (x : UInt8) (_ : x.toNat < 128) (W : World), Calls Tryz.prog 91 #[.string endsT, .int .i32 x.toNat] W fun r w' => r = .returned (.int .i64 (Lib.indexByte [44, 58, 59] x)) ∧ W = w') := Lib.hid (fun x hx W => (shRune endsT x.toNat W (by omega) (by omega)).mono fun r w' h => ⟨h.1.trans (by simp [endsT]), h.2.symm⟩)
  go_enter Tryz.func84, Tryz.ntmps84
  generalize endsT = t at *
  go_wp2_with (go_at_call 92; refine (HU.out _).mono ?_; rintro r w' ⟨rfl, hw⟩; rw [hw])
  go_loopg [9, 10] s.size (fun g _ _ wx => ∃ i : Nat, i + g = s.size ∧ Hid (It w wx s i) ∧ Hid (∀ b ∈ s.data.toList.take i, stp b = false))
  case atStart => exact ⟨0, by omega, Lib.hid (It.start w s), Lib.hid (fun b h => by simp at h)⟩
  case round =>
    obtain ⟨i, hig, hit, hno⟩ := hrel
    by_cases h : i < s.size
    · have hnx := fun ty => Lib.run_next_any_at (P := Tryz.prog) wr w.heap.size s i ty hit.out.it h
      have HH := Lib.hid hit.out.step
      have hlen : s.data.toList.length = s.size := len_list s
      have htk : ∀ k, i + k ≤ s.size → (∀ b ∈ (s.data.toList.drop i).take k, stp b = false) → ∀ b ∈ s.data.toList.take (i + k), stp b = false := fun k _ h2 b hb => by
        rw [List.take_add] at hb
        rcases List.mem_append.1 hb with hb | hb
        · exact hno.out b hb
        · exact h2 b hb
      have hp := pre_far (f := stp) (L := s.data.toList) (i := i) (by omega) hno.out
      rcases rune_way s i h with ⟨a1, a2, a3⟩ | ⟨a1, a2, a3, a4⟩
      · simp only [a2, a3] at hnx
        have HC := Lib.hid (fun W => HA.out (s[i]'h) a1 W)
        have hen := ends_ib (s[i]'h)
        rcases hst : stp (s[i]'h) with _ | _
        · have HN := Lib.hid (htk 1 (by omega) (fun b hb => by
            rw [drop_at h] at hb
            have : b = s[i]'h := by simpa using hb
            rw [this]; exact hst))
          rw [hst] at hen
          have z0 : ¬ (0 : Int) ≤ Lib.indexByte [44, 58, 59] (s[i]'h) := of_decide_eq_false hen
          clear hst hen hp htk a2 a3 hlen
          generalize Lib.indexByte [44, 58, 59] (s[i]'h) = z at *
          generalize (s[i]'h).toNat = x at *
          go_wp2_with (go_at_call 91; with_reducible refine (HC.out _).mono ?_; rintro r w' ⟨rfl, rfl⟩)
          go_roundg (s.size - (i + 1))
          case measure => omega
          case rel => exact ⟨i + 1, by omega, Lib.hid (HH.out _), HN⟩
        · rw [hst] at hen
          have z0 : (0 : Int) ≤ Lib.indexByte [44, 58, 59] (s[i]'h) := of_decide_eq_true hen
          have hx : ixP stp s.data.toList = i := by
            rw [drop_at h, pre_stop _ _ _ hst] at hp
            unfold ixP
            rw [if_neg (by omega), hp]
            rfl
          have HX := Lib.hid hx
          clear hst hen hp htk a2 a3 hlen hx
          generalize Lib.indexByte [44, 58, 59] (s[i]'h) = z at *
          generalize (s[i]'h).toNat = x at *
          go_wp2_with (go_at_call 91; with_reducible refine (HC.out _).mono ?_; rintro r w' ⟨rfl, rfl⟩)
          go_ret
          exact ⟨by rw [HX.out]; rfl, (HH.out _).bel⟩
      · have HN := Lib.hid (htk _ a3 a4)
        clear hp htk hlen a4
        generalize (Utf8.decode s i).2 = k at *
        generalize (Utf8.decode s i).1 = x at *
        have HC := Lib.hid (fun W => HR.out (x : Int) (by omega) W)
        go_wp2_with (go_at_call 91; with_reducible refine (HC.out _).mono ?_; rintro r w1 ⟨rfl, hbw⟩; have HBW := Lib.hid hbw; clear hbw)
        go_roundg (s.size - (i + k))
        case measure => omega
        case rel => exact ⟨i + k, by omega, Lib.hid ((HH.out _).call HBW.out), HN⟩
    · obtain rfl : i = s.size := by omega
      have hnx := fun ty => Lib.run_next_end_at (P := Tryz.prog) wr w.heap.size s s.size ty hit.out.it (by omega)
      have hp := pre_far (f := stp) (L := s.data.toList) (i := s.size) (by rw [len_list]; exact Nat.le_refl _) hno.out
      rw [drop_size] at hp
      have hx : ixP stp s.data.toList = -1 := by unfold ixP; rw [if_pos (by rw [len_list]; exact hp)]
      have HX := Lib.hid hx
      clear hp hx
      go_wp2_with fail
      go_ret
      exact ⟨by rw [HX.out]; rfl, hit.out.bel⟩
theorem idxany_any (s : ByteArray) (hs : s.size ≤ 100000) (w : World) : Calls Tryz.prog 84 #[.string s, .string ⟨#[44, 58, 59]⟩] w fun r w' => r = .returned (.int .i64 (ixP stp s.data.toList)) ∧ Below w.heap.size w w' := by
  by_cases h8 : s.size ≤ 8
  · exact any_short s h8 w
  · refine (shAnyLong s ⟨#[44, 58, 59]⟩ w (by decide) (by omega) (by omega) (by decide) (fun j b hb => ?_)).mono fun r w' h => ⟨h.1.trans (by rw [← stp_ia]), h.2⟩
    have hm : b ∈ ([44, 58, 59] : List UInt8) := List.mem_of_getElem? hb
    rcases List.mem_cons.1 hm with rfl | hm
    · decide
    · rcases List.mem_cons.1 hm with rfl | hm
      · decide
      · obtain rfl : b = 59 := by simpa using hm
        decide
theorem hasany_any (s : ByteArray) (hs : s.size ≤ 100000) (w : World) : Calls Tryz.prog 75 #[.string s, .string ⟨#[44, 58, 59]⟩] w fun r w' => r = .returned (.bool (decide (0 ≤ ixP stp s.data.toList))) ∧ Below w.heap.size w w' := by
  have HC := Lib.hid (idxany_any s hs w)
  generalize ixP stp s.data.toList = z at *
  go_enter Tryz.func75, Tryz.ntmps75
  go_wp2_with (go_at_call 84; with_reducible refine (HC.out).mono ?_; rintro r w' ⟨rfl, hbw⟩; have HBW := Lib.hid hbw; clear hbw)
  go_ret
  exact ⟨rfl, HBW.out⟩
end Go.Proofs.YtndbgdapojkfaaaGreatDoor.Par
