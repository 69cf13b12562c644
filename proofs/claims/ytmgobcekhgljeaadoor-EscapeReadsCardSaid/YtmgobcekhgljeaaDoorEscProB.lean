/- Contracts of package escape: pair, first, part, Unescape, Split. -/
import Derived.Test.YtmgobcekhgljeaaDoorEscProA
import Derived.Test.YtmgobcekhgljeaaDoorEscRefB
import Derived.Test.YtmgobcekhgljeaaDoorEro
set_option linter.unusedVariables false
namespace Go.Proofs.YtmgobcekhgljeaaDoor.Esc
open Go.RowKit Go.Deep Go.Proofs.YtmgobcekhgljeaaDoor.Byt Go.Proofs.YtmgobcekhgljeaaDoor.Utf Go.Proofs.YtmgobcekhgljeaaDoor.Tre Go.Proofs.YtmgobcekhgljeaaDoor.Txt Go.Proofs.YtmgobcekhgljeaaDoor.Ero

/-- A part, from a place on: its bytes, the place where it ends or is wrong, and an error. -/
def prt (L : List UInt8) (p : Int) (b : List UInt8) : List UInt8 × Int × Int :=
  match L with
  | [] => (b, p, 0)
  | c :: t => if c.toNat = 44 then (b, p, 0) else if c.toNat = 59 then ([], p, 4) else if c.toNat = 92 then (if h : t = [] then ([], p, 4) else match tl (t.head h) with | some x => prt t.tail (p + 2) (b ++ [x]) | none => ([], p, 4)) else prt t (p + 1) (b ++ [c])
termination_by L.length
decreasing_by all_goals (simp; try omega)
theorem prt_nil (p : Int) (b : List UInt8) : prt [] p b = (b, p, 0) := by rw [prt]
theorem prt_comma {c : UInt8} (h : c.toNat = 44) (t : List UInt8) (p : Int) (b : List UInt8) : prt (c :: t) p b = (b, p, 0) := by rw [prt, if_pos h]
theorem prt_semi {c : UInt8} (h : c.toNat = 59) (t : List UInt8) (p : Int) (b : List UInt8) : prt (c :: t) p b = ([], p, 4) := by rw [prt, if_neg (by omega), if_pos h]
theorem prt_end {c : UInt8} (h : c.toNat = 92) (p : Int) (b : List UInt8) : prt [c] p b = ([], p, 4) := by rw [prt, if_neg (by omega), if_neg (by omega), if_pos h, dif_pos rfl]
theorem prt_told {c d x : UInt8} (h : c.toNat = 92) (hd : tl d = some x) (t : List UInt8) (p : Int) (b : List UInt8) : prt (c :: d :: t) p b = prt t (p + 2) (b ++ [x]) := by
  rw [prt, if_neg (by omega), if_neg (by omega), if_pos h, dif_neg (by simp), List.head_cons, hd, List.tail_cons]
theorem prt_bad {c d : UInt8} (h : c.toNat = 92) (hd : tl d = none) (t : List UInt8) (p : Int) (b : List UInt8) : prt (c :: d :: t) p b = ([], p, 4) := by
  rw [prt, if_neg (by omega), if_neg (by omega), if_pos h, dif_neg (by simp), List.head_cons, hd]
theorem prt_byte {c : UInt8} (h : c.toNat ≠ 44 ∧ c.toNat ≠ 59 ∧ c.toNat ≠ 92) (t : List UInt8) (p : Int) (b : List UInt8) : prt (c :: t) p b = prt t (p + 1) (b ++ [c]) := by
  rw [prt, if_neg h.1, if_neg h.2.1, if_neg h.2.2]
/-- What a part's first bytes tell: a byte, and how many tell it. -/
def tol (d : UInt8) : Nat × Nat := match tl d with | some x => (x.toNat, 2) | none => (0, 0)
def fst (L : List UInt8) : Nat × Nat :=
  match L with
  | [] => (0, 0)
  | [c] => if c.toNat = 59 ∨ c.toNat = 92 then (0, 0) else (c.toNat, 1)
  | c :: d :: _ => if c.toNat = 59 then (0, 0) else if c.toNat = 92 then tol d else (c.toNat, 1)
/-- Where a part ends, or is wrong, lies within the value. -/
theorem prt_ways : ∀ (L : List UInt8) (p : Int) (b : List UInt8), ((prt L p b).2.2 = 0 ∨ ((prt L p b).2.2 = 4 ∧ (prt L p b).1 = [])) ∧ p ≤ (prt L p b).2.1 ∧ (prt L p b).2.1 ≤ p + L.length := by
  refine bytes2 (M := fun L => ∀ p b, _) (fun p b => by rw [prt_nil]; exact ⟨.inl rfl, Int.le_refl _, by show p ≤ p + (0 : Nat); omega⟩) (fun c t h1 h2 p b => ?_)
  by_cases a1 : c.toNat = 44
  · rw [prt_comma a1]; exact ⟨.inl rfl, Int.le_refl _, by show p ≤ p + (t.length + 1 : Nat); omega⟩
  · by_cases a2 : c.toNat = 59
    · rw [prt_semi a2]; exact ⟨.inr ⟨rfl, rfl⟩, Int.le_refl _, by show p ≤ p + (t.length + 1 : Nat); omega⟩
    · by_cases a3 : c.toNat = 92
      · cases t with
        | nil => rw [prt_end a3]; exact ⟨.inr ⟨rfl, rfl⟩, Int.le_refl _, by show p ≤ p + (1 : Nat); omega⟩
        | cons d t =>
          rw [List.tail_cons] at h2
          cases hd : tl d with
          | none => rw [prt_bad a3 hd]; exact ⟨.inr ⟨rfl, rfl⟩, Int.le_refl _, by show p ≤ p + ((d :: t).length + 1 : Nat); omega⟩
          | some x =>
            rw [prt_told a3 hd]
            obtain ⟨h3, h4, h5⟩ := h2 (p + 2) (b ++ [x])
            exact ⟨h3, by omega, by simp only [List.length_cons]; omega⟩
      · rw [prt_byte ⟨a1, a2, a3⟩]
        obtain ⟨h3, h4, h5⟩ := h1 (p + 1) (b ++ [c])
        exact ⟨h3, by omega, by simp only [List.length_cons]; omega⟩
/-- The parts of a value, part by part. -/
theorem spl_prt : ∀ (L : List UInt8) (p : Int) (b : List UInt8) (out : List (List UInt8)), spl L p b out = if (prt L p b).2.2 = 4 then ([], 4, (prt L p b).2.1) else if (prt L p b).2.1 < p + L.length then spl (L.drop (((prt L p b).2.1 - p).toNat + 1)) ((prt L p b).2.1 + 1) [] (out ++ [(prt L p b).1]) else (out ++ [(prt L p b).1], 0, 0) := by
  refine bytes2 (M := fun L => ∀ p b out, _) (fun p b out => ?_) (fun c t h1 h2 p b out => ?_)
  · rw [prt_nil, spl_nil, if_neg (by simp), if_neg (by show ¬ p < p + (0 : Nat); omega)]
  by_cases a1 : c.toNat = 44
  · rw [prt_comma a1, spl_comma a1, if_neg (by simp), if_pos (by show p < p + (t.length + 1 : Nat); omega)]
    show _ = spl ((c :: t).drop ((p - p).toNat + 1)) _ _ _
    rw [show (p - p).toNat + 1 = 1 by omega]
    rfl
  · by_cases a2 : c.toNat = 59
    · rw [prt_semi a2, spl_semi a2, if_pos rfl]
    · by_cases a3 : c.toNat = 92
      · cases t with
        | nil => rw [prt_end a3, spl_end a3, if_pos rfl]
        | cons d t =>
          rw [List.tail_cons] at h2
          cases hd : tl d with
          | none => rw [prt_bad a3 hd, spl_bad a3 hd, if_pos rfl]
          | some x =>
            rw [prt_told a3 hd, spl_told a3 hd, h2 (p + 2) (b ++ [x]) out]
            obtain ⟨-, h4, h5⟩ := prt_ways t (p + 2) (b ++ [x])
            generalize prt t (p + 2) (b ++ [x]) = r at *
            rw [show (r.2.1 - p).toNat + 1 = ((r.2.1 - (p + 2)).toNat + 1) + 1 + 1 by omega, List.drop_succ_cons, List.drop_succ_cons]
            have e : (r.2.1 < p + 2 + (t.length : Int)) = (r.2.1 < p + ((c :: d :: t).length : Int)) := by simp only [List.length_cons]; apply propext; omega
            simp only [e]
      · rw [prt_byte ⟨a1, a2, a3⟩, spl_byte ⟨a1, a2, a3⟩, h1 (p + 1) (b ++ [c]) out]
        obtain ⟨-, h4, h5⟩ := prt_ways t (p + 1) (b ++ [c])
        generalize prt t (p + 1) (b ++ [c]) = r at *
        rw [show (r.2.1 - p).toNat + 1 = ((r.2.1 - (p + 1)).toNat + 1) + 1 by omega, List.drop_succ_cons]
        have e : (r.2.1 < p + 1 + (t.length : Int)) = (r.2.1 < p + ((c :: t).length : Int)) := by simp only [List.length_cons]; apply propext; omega
        simp only [e]
theorem une_prt : ∀ (L : List UInt8) (p : Int) (b : List UInt8), une L p b = if (prt L p b).2.2 = 4 then ([], 4, (prt L p b).2.1) else if (prt L p b).2.1 < p + L.length then ([], 4, (prt L p b).2.1) else ((prt L p b).1, 0, 0) := by
  refine bytes2 (M := fun L => ∀ p b, _) (fun p b => ?_) (fun c t h1 h2 p b => ?_)
  · rw [prt_nil, une_nil, if_neg (by simp), if_neg (by show ¬ p < p + (0 : Nat); omega)]
  by_cases a1 : c.toNat = 44
  · rw [prt_comma a1, une_stop (.inl a1), if_neg (by simp), if_pos (by show p < p + (t.length + 1 : Nat); omega)]
  · by_cases a2 : c.toNat = 59
    · rw [prt_semi a2, une_stop (.inr a2), if_pos rfl]
    · by_cases a3 : c.toNat = 92
      · cases t with
        | nil => rw [prt_end a3, une_end a3, if_pos rfl]
        | cons d t =>
          rw [List.tail_cons] at h2
          cases hd : tl d with
          | none => rw [prt_bad a3 hd, une_bad a3 hd, if_pos rfl]
          | some x =>
            rw [prt_told a3 hd, une_told a3 hd, h2 (p + 2) (b ++ [x])]
            have e : ((prt t (p + 2) (b ++ [x])).2.1 < p + 2 + (t.length : Int)) = ((prt t (p + 2) (b ++ [x])).2.1 < p + ((c :: d :: t).length : Int)) := by simp only [List.length_cons]; apply propext; omega
            simp only [e]
      · rw [prt_byte ⟨a1, a2, a3⟩, une_byte ⟨a1, a2, a3⟩, h1 (p + 1) (b ++ [c])]
        have e : ((prt t (p + 1) (b ++ [c])).2.1 < p + 1 + (t.length : Int)) = ((prt t (p + 1) (b ++ [c])).2.1 < p + ((c :: t).length : Int)) := by simp only [List.length_cons]; apply propext; omega
        simp only [e]
set_option maxRecDepth 20000 in
theorem pair_any (d : UInt8) (w : World) : Calls Tryd.prog 38 #[.int .u8 d.toNat] w fun r w' => r = .returned (.tuple #[.int .u8 (tol d).1, .int .i64 (tol d).2]) ∧ w = w' := by
  unfold tol tl
  by_cases d1 : d.toNat = 110 ∨ d.toNat = 78
  · rw [if_pos d1]
    rcases d1 with d1 | d1
    · rw [d1]
      go_enter Tryd.func38, Tryd.ntmps38
      go_wp2_with fail
      go_ret2
      exact ⟨rfl, rfl⟩
    · rw [d1]
      go_enter Tryd.func38, Tryd.ntmps38
      go_wp2_with fail
      go_ret2
      exact ⟨rfl, rfl⟩
  · rw [if_neg d1]
    by_cases d2 : d.toNat = 92 ∨ d.toNat = 59 ∨ d.toNat = 44
    · rw [if_pos d2]
      show Calls _ _ _ _ fun r w' => r = .returned (.tuple #[.int .u8 (d.toNat : Int), .int .i64 2]) ∧ w = w'
      rcases d2 with d2 | d2 | d2
      · rw [d2]
        go_enter Tryd.func38, Tryd.ntmps38
        go_wp2_with fail
        go_ret2
        exact ⟨rfl, rfl⟩
      · rw [d2]
        go_enter Tryd.func38, Tryd.ntmps38
        go_wp2_with fail
        go_ret2
        exact ⟨rfl, rfl⟩
      · rw [d2]
        go_enter Tryd.func38, Tryd.ntmps38
        go_wp2_with fail
        go_ret2
        exact ⟨rfl, rfl⟩
    · rw [if_neg d2]
      have t1 : ((d.toNat : Int) == 110) = false := by rw [beq_eq_false_iff_ne]; omega
      have t2 : ((d.toNat : Int) == 78) = false := by rw [beq_eq_false_iff_ne]; omega
      have t3 : ((d.toNat : Int) == 92) = false := by rw [beq_eq_false_iff_ne]; omega
      have t4 : ((d.toNat : Int) == 59) = false := by rw [beq_eq_false_iff_ne]; omega
      have t5 : ((d.toNat : Int) == 44) = false := by rw [beq_eq_false_iff_ne]; omega
      generalize (d.toNat : Int) = z at *
      clear d1 d2
      go_enter Tryd.func38, Tryd.ntmps38
      go_wp2_with fail
      go_ret2
      exact ⟨rfl, rfl⟩
/-- A text's first bytes. -/
theorem list_one {s : ByteArray} (h : s.size = 1) : s.data.toList = [s[0]'(by omega)] := by
  have := drop_at (s := s) (k := 0) (by omega)
  rw [List.drop_zero] at this
  rw [this, List.drop_eq_nil_of_le (by rw [len_list]; omega)]
theorem list_two {s : ByteArray} (h : 1 < s.size) : s.data.toList = (s[0]'(by omega)) :: (s[1]'h) :: s.data.toList.drop 2 := by
  have h0 := drop_at (s := s) (k := 0) (by omega)
  rw [List.drop_zero] at h0
  have h1 := drop_at (s := s) (k := 1) h
  exact h0.trans (congrArg _ h1)
set_option maxRecDepth 20000 in
theorem first_any (s : ByteArray) (hs : 0 < s.size) (w : World) : Calls Tryd.prog 32 #[.string s] w fun r w' => r = .returned (.tuple #[.int .u8 (fst s.data.toList).1, .int .i64 (fst s.data.toList).2]) ∧ w = w' := by
  have hs' : (0 : Int) < s.size := by omega
  by_cases h1 : s.size = 1
  · have e := list_one h1
    by_cases c1 : (s[0]'hs).toNat = 59
    · have E := Lib.hid (show fst s.data.toList = (0, 0) by rw [e]; exact if_pos (.inl c1))
      clear e h1
      go_enter Tryd.func32, Tryd.ntmps32
      go_wp2_with fail
      go_ret2
      exact ⟨by rw [E.out]; rfl, rfl⟩
    · have t1 : (((s[0]'hs).toNat : Int) == 59) = false := by rw [beq_eq_false_iff_ne]; omega
      by_cases c2 : (s[0]'hs).toNat = 92
      · have E := Lib.hid (show fst s.data.toList = (0, 0) by rw [e]; exact if_pos (.inr c2))
        have ts : (s.toList == [92]) = true := by
          rw [ByteArray.toList_eq, e, show (s[0]'hs) = 92 from UInt8.toNat_inj.1 c2]
          rfl
        clear e h1 c1 c2
        go_enter Tryd.func32, Tryd.ntmps32
        go_wp2_with fail
        go_ret2
        exact ⟨by rw [E.out]; rfl, rfl⟩
      · have E := Lib.hid (show fst s.data.toList = ((s[0]'hs).toNat, 1) by rw [e]; exact if_neg (by omega))
        have t2 : (((s[0]'hs).toNat : Int) == 92) = false := by rw [beq_eq_false_iff_ne]; omega
        have ts : (s.toList == [92]) = false := by
          rw [ByteArray.toList_eq, e, beq_eq_false_iff_ne]
          intro h
          injection h with h
          rw [h] at c2
          exact c2 rfl
        clear e h1 c1 c2
        go_enter Tryd.func32, Tryd.ntmps32
        go_wp2_with fail
        go_ret2
        exact ⟨by rw [E.out]; rfl, rfl⟩
  · have h2 : 1 < s.size := by omega
    have h2' : (1 : Int) < s.size := by omega
    have e := list_two h2
    have ts : (s.toList == [92]) = false := by
      rw [ByteArray.toList_eq, e, beq_eq_false_iff_ne]
      intro h
      injection h with h h'
      cases h'
    by_cases c1 : (s[0]'hs).toNat = 59
    · have E := Lib.hid (show fst s.data.toList = (0, 0) by rw [e]; exact if_pos c1)
      clear e h1
      go_enter Tryd.func32, Tryd.ntmps32
      go_wp2_with fail
      go_ret2
      exact ⟨by rw [E.out]; rfl, rfl⟩
    · have t1 : (((s[0]'hs).toNat : Int) == 59) = false := by rw [beq_eq_false_iff_ne]; omega
      by_cases c2 : (s[0]'hs).toNat = 92
      · have E := Lib.hid (show fst s.data.toList = tol (s[1]'h2) by rw [e]; exact (if_neg c1).trans (if_pos c2))
        have HP := Lib.hid (fun W => pair_any (s[1]'h2) W)
        clear e h1 c1
        go_enter Tryd.func32, Tryd.ntmps32
        go_wp2_with (go_at_call 38; with_reducible refine (HP.out _).mono ?_; rintro r w' ⟨rfl, rfl⟩)
        go_ret2
        exact ⟨by rw [E.out]; rfl, rfl⟩
      · have E := Lib.hid (show fst s.data.toList = ((s[0]'hs).toNat, 1) by rw [e]; exact (if_neg c1).trans (if_neg c2))
        have t2 : (((s[0]'hs).toNat : Int) == 92) = false := by rw [beq_eq_false_iff_ne]; omega
        clear e h1 c1 c2
        go_enter Tryd.func32, Tryd.ntmps32
        go_wp2_with fail
        go_ret2
        exact ⟨by rw [E.out]; rfl, rfl⟩
/-- What a part begins with tells a fault, or a byte. -/
theorem fst_prt : ∀ (L : List UInt8) (p : Int) (b : List UInt8), L ≠ [] → (∀ c t, L = c :: t → c.toNat ≠ 44) → (fst L = (0, 0) ∧ prt L p b = ([], p, 4)) ∨ ∃ (x : UInt8) (n : Nat), 0 < n ∧ n ≤ 2 ∧ n ≤ L.length ∧ fst L = (x.toNat, n) ∧ prt L p b = prt (L.drop n) (p + n) (b ++ [x])
  | [], _, _, h, _ => absurd rfl h
  | [c], p, b, _, h => by
    have h1 := h c [] rfl
    by_cases a2 : c.toNat = 59
    · exact .inl ⟨if_pos (.inl a2), prt_semi a2 _ _ _⟩
    · by_cases a3 : c.toNat = 92
      · exact .inl ⟨if_pos (.inr a3), prt_end a3 _ _⟩
      · exact .inr ⟨c, 1, by omega, by omega, Nat.le_refl _, if_neg (by omega), prt_byte ⟨h1, a2, a3⟩ _ _ _⟩
  | c :: d :: t, p, b, _, h => by
    have h1 := h c (d :: t) rfl
    by_cases a2 : c.toNat = 59
    · exact .inl ⟨if_pos a2, prt_semi a2 _ _ _⟩
    · by_cases a3 : c.toNat = 92
      · cases hd : tl d with
        | none => exact .inl ⟨((if_neg a2).trans (if_pos a3)).trans (by unfold tol; rw [hd]), prt_bad a3 hd _ _ _⟩
        | some x => exact .inr ⟨x, 2, by omega, by omega, by simp, ((if_neg a2).trans (if_pos a3)).trans (by unfold tol; rw [hd]), prt_told a3 hd _ _ _⟩
      · exact .inr ⟨c, 1, by omega, by omega, by simp, (if_neg a2).trans (if_neg a3), prt_byte ⟨h1, a2, a3⟩ _ _ _⟩
theorem tail_list {s : ByteArray} (k : Nat) : (s.extract k s.size).data.toList = s.data.toList.drop k := by
  rw [ByteArray.data_extract, Array.toList_extract]
  simp only [List.extract_eq_take_drop]
  exact List.take_of_length_le (by rw [List.length_drop, len_list]; exact Nat.le_refl _)
/-- What part answers. -/
def PtR (w : World) (x : List UInt8 × Int × Int) (r : Ending) (w' : World) : Prop := ∃ ev, r = .returned (.tuple #[.string ⟨x.1.toArray⟩, .int .i64 (if x.2.2 = 0 then x.2.1 else 0), ev]) ∧ Ee w' x.2.2 x.2.1 ev ∧ Below w.heap.size w w'
theorem ptR_no {w w1 w2 : World} {x : List UInt8 × Int × Int} {p : Int} {v : Value} (hx : x = ([], p, 4)) (hb : Below w.heap.size w w1) (hle : w.heap.size ≤ w1.heap.size) (he : Flt.Er w2 4 v (if ((4 : Int) == 0) = true then [] else [p])) (hb2 : Below w1.heap.size w1 w2) : PtR w x (.returned (.tuple #[.string ⟨#[]⟩, .int .i64 0, v])) w2 := by
  subst hx
  exact ⟨v, rfl, Ee.of_new he, ((Bl.mk hb hle).call hb2).below⟩
theorem ptR_yes {w w1 : World} {x : List UInt8 × Int × Int} {p : Int} {b : List UInt8} (hx : x = (b, p, 0)) (hb : Below w.heap.size w w1) : PtR w x (.returned (.tuple #[.string ⟨b.toArray⟩, .int .i64 p, .nilIface])) w1 := by
  subst hx
  exact ⟨.nilIface, rfl, Ee.none _ _, hb⟩
set_option maxRecDepth 20000 in
set_option maxHeartbeats 1000000 in
theorem part_any (s : ByteArray) (hs : s.size ≤ 3000) (n : Nat) (hn : n ≤ s.size) (w : World) : Calls Tryd.prog 23 #[.string s, .int .i64 n] w (PtR w (prt (s.data.toList.drop n) n [])) := by
  have HS := Lib.hid hs
  have HX := Lib.hid (fun wr l h => Bld.string_any w wr l h)
  have HN := Lib.hid (fun p W => Flt.new_any 4 p W)
  have b0 := Lib.hid (Bld.Bu.start w)
  generalize hx : prt (s.data.toList.drop n) n [] = X
  have HX0 := Lib.hid hx.symm
  clear hx
  go_enter Tryd.func23, Tryd.ntmps23
  go_wp2_with fail
  go_loopw [1] (fun v wr => ∃ (k : Nat) (b : List UInt8), k ≤ s.size ∧ v = .int .i64 k ∧ b.length ≤ k ∧ Hid (X = prt (s.data.toList.drop k) k b) ∧ Hid (Bld.Bu w wr b)) (fun v _ => s.size - (intOf v).toNat)
  case atStart => exact ⟨n, [], hn, rfl, Nat.zero_le _, HX0, b0⟩
  case round =>
    obtain ⟨k, b, hk, rfl, hbk, hX, hB⟩ := hrel
    clear HX0 b0
    by_cases h : k < s.size
    · have h' : (k : Int) < s.size := by omega
      have hd := drop_at h
      by_cases c1 : (s[k]'h).toNat = 44
      · have HE := Lib.hid (hX.out.trans (by rw [hd, prt_comma c1]))
        have t1 : (((s[k]'h).toNat : Int) != 44) = false := by rw [c1]; rfl
        clear hd hX
        go_wp2_with (go_at_call 22; with_reducible refine (HX.out _ _ hB.out).mono ?_; rintro r w1 ⟨rfl, hb⟩; have B4 := Lib.hid hb; clear hb)
        go_ret3
        exact ptR_yes HE.out B4.out
      · have t1 : (((s[k]'h).toNat : Int) != 44) = true := by simp; omega
        have hne : s.data.toList.drop k ≠ [] := by rw [hd]; simp
        have hst := fst_prt (s.data.toList.drop k) k b hne (fun c t e => by rw [hd] at e; injection e with e1 e2; rw [← e1]; exact c1)
        have hf := fun W => first_any (s.extract k s.size) (by rw [ByteArray.size_extract]; omega) W
        rw [tail_list] at hf
        rw [List.length_drop, len_list] at hst
        rcases hst with ⟨e1, e2⟩ | ⟨x, m, m1, m2, m3, e1, e2⟩
        · rw [e1] at hf
          have HF := Lib.hid hf
          have HE := Lib.hid (hX.out.trans e2)
          clear hf e1 e2 hd hX hne c1
          go_wp2_with (first
            | (go_at_call 32; with_reducible refine (HF.out _).mono ?_; rintro r w' ⟨rfl, rfl⟩)
            | (go_at_call 24; with_reducible refine (HN.out _ _).mono ?_; rintro r w1 ⟨v1, rfl, he, hb⟩; have E1 := Lib.hid he; have B1 := Lib.hid hb; clear he hb))
          go_ret3
          exact ptR_no HE.out hB.out.bel (Nat.le_of_lt hB.out.lt) E1.out B1.out
        · rw [e1] at hf
          have HF := Lib.hid hf
          have HE := Lib.hid (hX.out.trans (e2.trans (by rw [List.drop_drop]; rfl : _ = prt (s.data.toList.drop (k + m)) ((k + m : Nat) : Int) (b ++ [x]))))
          have HW := Lib.hid (fun wr h => Bld.byte_any w wr b x (z := x.toNat) rfl h (by omega))
          have hm0 : ((m : Int) == 0) = false := by rw [beq_eq_false_iff_ne]; omega
          clear hf e1 e2 hd hX hne c1
          go_wp2_with (first
            | (go_at_call 32; with_reducible refine (HF.out _).mono ?_; rintro r w' ⟨rfl, rfl⟩)
            | (go_at_call 20; with_reducible refine (HW.out _ hB.out).mono ?_; rintro r w2 ⟨rfl, hb⟩; have B2 := Lib.hid hb; clear hb))
          go_roundw
          case rel => exact ⟨k + m, b ++ [x], by omega, by go_num, by rw [List.length_append]; show _ + 1 ≤ _; omega, HE, B2⟩
          case measure => simp [intOf]; omega
    · obtain rfl : k = s.size := by omega
      have HE := Lib.hid (hX.out.trans (by rw [drop_size, prt_nil]))
      clear hX
      go_wp2_with (go_at_call 22; with_reducible refine (HX.out _ _ hB.out).mono ?_; rintro r w1 ⟨rfl, hb⟩; have B4 := Lib.hid hb; clear hb)
      go_ret3
      exact ptR_yes HE.out B4.out
/-- part's answers, each by itself. -/
theorem part_no (s : ByteArray) (hs : s.size ≤ 3000) (n : Nat) (hn : n ≤ s.size) {x : List UInt8 × Int × Int} {p : Int} (hx : prt (s.data.toList.drop n) n [] = x) (h4 : x = ([], p, 4)) (w : World) : Calls Tryd.prog 23 #[.string s, .int .i64 n] w fun r w' => ∃ ev, r = .returned (.tuple #[.string ⟨#[]⟩, .int .i64 0, ev]) ∧ Ee w' 4 p ev ∧ Below w.heap.size w w' := by
  refine (part_any s hs n hn w).mono ?_
  rw [hx, h4]
  rintro r w' ⟨ev, rfl, h1, h2⟩
  exact ⟨ev, rfl, h1, h2⟩
theorem part_yes (s : ByteArray) (hs : s.size ≤ 3000) (n : Nat) (hn : n ≤ s.size) {x : List UInt8 × Int × Int} {b : List UInt8} {p : Int} (hx : prt (s.data.toList.drop n) n [] = x) (h4 : x = (b, p, 0)) (w : World) : Calls Tryd.prog 23 #[.string s, .int .i64 n] w fun r w' => r = .returned (.tuple #[.string ⟨b.toArray⟩, .int .i64 p, .nilIface]) ∧ Below w.heap.size w w' := by
  refine (part_any s hs n hn w).mono ?_
  rw [hx, h4]
  rintro r w' ⟨ev, rfl, h1, h2⟩
  obtain rfl := Ee.nil h1
  exact ⟨rfl, h2⟩
set_option maxRecDepth 20000 in
set_option maxHeartbeats 1000000 in
theorem unesc_any (s : ByteArray) (hs : s.size ≤ 1000) (w : World) : Calls Tryd.prog 12 #[.string s] w fun r w' => ∃ ev, r = .returned (.tuple #[.string ⟨(une s.data.toList 0 []).1.toArray⟩, ev]) ∧ Ee w' (une s.data.toList 0 []).2.1 (une s.data.toList 0 []).2.2 ev ∧ Below w.heap.size w w' := by
  have hu := une_prt s.data.toList 0 []
  obtain ⟨hw1, hw2, hw3⟩ := prt_ways s.data.toList 0 []
  rw [len_list] at hu hw3
  have hx : prt (s.data.toList.drop 0) ((0 : Nat) : Int) [] = prt s.data.toList 0 [] := rfl
  generalize prt s.data.toList 0 [] = x at *
  obtain ⟨b, p, e⟩ := x
  dsimp only at hu hw1 hw2 hw3
  rcases hw1 with rfl | ⟨rfl, rfl⟩
  · rw [if_neg (by decide), Int.zero_add] at hu
    have HP := Lib.hid (show ∀ W, Calls Tryd.prog 23 #[.string s, .int .i64 0] W _ from fun W => part_yes s (by omega) 0 (by omega) hx rfl W)
    by_cases hlt : p < s.size
    · rw [if_pos hlt] at hu
      rw [hu]
      have HN := Lib.hid (fun W => Flt.new_any 4 p W)
      clear hu hx
      go_enter Tryd.func12, Tryd.ntmps12
      go_wp2_with (first
        | (go_at_call 23; with_reducible refine (HP.out _).mono ?_; rintro r w1 ⟨rfl, hb⟩; have B1 := Lib.hid ((Bl.refl w).call hb); clear hb)
        | (go_at_call 24; with_reducible refine (HN.out _).mono ?_; rintro r w2 ⟨v1, rfl, he, hb⟩; have E2 := Lib.hid he; have B2 := Lib.hid (B1.out.call hb); clear he hb))
      go_ret2
      exact ⟨v1, rfl, Ee.of_new E2.out, B2.out.below⟩
    · rw [if_neg hlt] at hu
      rw [hu]
      clear hu hx
      go_enter Tryd.func12, Tryd.ntmps12
      go_wp2_with (go_at_call 23; with_reducible refine (HP.out _).mono ?_; rintro r w1 ⟨rfl, hb⟩; have B1 := Lib.hid ((Bl.refl w).call hb); clear hb)
      go_ret2
      exact ⟨_, rfl, Ee.none _ _, B1.out.below⟩
  · rw [if_pos rfl] at hu
    rw [hu]
    have HP := Lib.hid (show ∀ W, Calls Tryd.prog 23 #[.string s, .int .i64 0] W _ from fun W => part_no s (by omega) 0 (by omega) hx rfl W)
    have te : ((4 : Int) != 0) = true := by decide
    clear hu hx
    go_enter Tryd.func12, Tryd.ntmps12
    go_wp2_with (go_at_call 23; with_reducible refine (HP.out _).mono ?_; rintro r w1 ⟨v1, rfl, he, hb⟩; have E1 := Lib.hid he; have B1 := Lib.hid ((Bl.refl w).call hb); have z1 := fun W => he.neq W; have y1 := fun o W => he.asks o W; clear he hb)
    go_ret2
    exact ⟨_, rfl, E1.out, B1.out.below⟩
/-- What Split answers. -/
def SpR (w : World) (x : List (List UInt8) × Int × Int) (r : Ending) (w' : World) : Prop := ∃ a c ev, r = .returned (.tuple #[.slice a (mks x.1).length c, ev]) ∧ Rd w' (txD (mks x.1)) (.slice a (mks x.1).length c) ∧ Ee w' x.2.1 x.2.2 ev ∧ Below w.heap.size w w'
theorem spR_no {w wr w2 : World} {x : List (List UInt8) × Int × Int} {p : Int} {v : Value} (hx : x = ([], 4, p)) (he : Ee w2 4 p v) (hb : Bl w w2) : SpR w x (.returned (.tuple #[.slice none 0 0, v])) w2 := by
  subst hx
  exact ⟨none, 0, v, rfl, .nil _ _ _ _, he, hb.below⟩
theorem spR_yes {w wr : World} {x : List (List UInt8) × Int × Int} {ls : List (List UInt8)} {a : Option Addr} {n c : Nat} {F : List Nat} (hx : x = (ls, 0, 0)) (h : Txt.Ow w wr (txD (mks ls)) (.slice a n c) F) (hb : Bl w wr) : SpR w x (.returned (.tuple #[.slice a n c, .nilIface])) wr := by
  subst hx
  obtain ⟨a', c', e⟩ := h.sl
  injection e with e1 e2 e3
  subst e1 e2 e3
  exact ⟨a, c, .nilIface, rfl, h.own.rd, Ee.none _ _, hb.below⟩
/-- Where Split stands. -/
structure Sk (s : ByteArray) (x : List (List UInt8) × Int × Int) (k : Nat) (ls : List (List UInt8)) : Prop where
  on : k ≤ s.size → x = spl (s.data.toList.drop k) k [] ls
  at_end : s.size < k → x = (ls, 0, 0)
  few : ls.length ≤ k
set_option maxRecDepth 20000 in
set_option maxHeartbeats 1000000 in
theorem splitR_any (s : ByteArray) (hs : s.size ≤ 3000) (w : World) : Calls Tryd.prog 14 #[.string s] w (SpR w (spl s.data.toList 0 [] [])) := by
  have HS := Lib.hid hs
  have k0 : Sk s (spl s.data.toList 0 [] []) 0 [] := ⟨fun _ => rfl, fun h => absurd h (by omega), Nat.le_refl _⟩
  generalize spl s.data.toList 0 [] [] = X at *
  have K0 := Lib.hid k0
  clear k0
  go_enter Tryd.func14, Tryd.ntmps14
  go_wp2_with fail
  go_loopw [4, 5] (fun v i wr => ∃ (k : Nat) (ls : List (List UInt8)) (F : List Nat), k ≤ s.size + 1 ∧ i = .int .i64 k ∧ Hid (Sk s X k ls) ∧ Hid (Txt.Ow w wr (txD (mks ls)) v F) ∧ Hid (Bl w wr)) (fun _ i _ => s.size + 1 - (intOf i).toNat)
  case atStart => exact ⟨0, [], [], Nat.zero_le _, rfl, K0, Lib.hid (Txt.Ow.nil _ _), Lib.hid (Bl.refl w)⟩
  case round =>
    obtain ⟨k, ls, F, hk, rfl, hX, ho, hb0⟩ := hrel
    clear K0
    by_cases h : k ≤ s.size
    · have h' : (k : Int) ≤ s.size := by omega
      have hsp := (hX.out.on h).trans (spl_prt (s.data.toList.drop k) k [] ls)
      obtain ⟨hw1, hw2, hw3⟩ := prt_ways (s.data.toList.drop k) k []
      rw [List.length_drop, len_list] at hw3 hsp
      have hfew := hX.out.few
      generalize hx : prt (s.data.toList.drop k) (k : Int) [] = x at *
      obtain ⟨b, p, e⟩ := x
      dsimp only at hsp hw1 hw2 hw3
      rcases hw1 with rfl | ⟨rfl, rfl⟩
      · rw [if_neg (by decide)] at hsp
        have HP := Lib.hid (fun W => part_yes s hs k h hx rfl W)
        obtain ⟨q, rfl⟩ : ∃ q : Nat, p = q := ⟨p.toNat, by omega⟩
        have HK := Lib.hid (show Sk s X (q + 1) (ls ++ [b]) from by
          refine ⟨fun hq => ?_, fun hq => ?_, by rw [List.length_append]; show _ + 1 ≤ _; omega⟩
          · rw [if_pos (by omega), List.drop_drop] at hsp
            rw [hsp, show k + (((q : Int) - k).toNat + 1) = q + 1 by omega]
            rfl
          · rw [if_neg (by omega)] at hsp
            exact hsp)
        have HA := Lib.hid (fun (W : World) (v : Value) (h1 : Txt.Ow w W (txD (mks ls)) v F) (h2 : Bl w W) => texts_new h1 h2 ⟨b.toArray⟩ (by rw [mks_len]; omega))
        have hq0 : (0 : Int) ≤ q := by omega
        clear hsp hx hX
        have HM := Lib.hid (mks_snoc ls b)
        generalize ByteArray.mk b.toArray = y at *
        go_wp2_with (first
          | (go_at_call 23; with_reducible refine (HP.out _).mono ?_; rintro r w1 ⟨rfl, hb⟩; obtain ⟨v', w', F', ra, ro, rb, -⟩ := HA.out _ _ (ho.out.call hb) (hb0.out.call hb); have RA := Lib.hid ra; have RO := Lib.hid ro; have RB := Lib.hid rb; clear ra ro rb hb)
          | (at_builtin; refine Byt.wpList_append_run rfl (.tmp 23) (.tmp 25) 22 22 rfl _ _ rfl rfl v' w' RA.out ?_))
        go_roundw
        case rel => exact ⟨q + 1, ls ++ [b], F', by omega, by go_num, HK, by rw [HM.out]; exact RO, RB⟩
        case measure => simp [intOf]; omega
      · rw [if_pos rfl] at hsp
        have HE := Lib.hid hsp
        have HP := Lib.hid (fun W => part_no s hs k h hx rfl W)
        have te : ((4 : Int) != 0) = true := by decide
        clear hsp hx hX
        go_wp2_with (go_at_call 23; with_reducible refine (HP.out _).mono ?_; rintro r w1 ⟨v1, rfl, he, hb⟩; have E1 := Lib.hid he; have B1 := Lib.hid (hb0.out.call hb); have z1 := fun W => he.neq W; have y1 := fun o W => he.asks o W; clear he hb)
        go_ret2
        exact spR_no (wr := w) HE.out E1.out B1.out
    · have h' : ¬ (k : Int) ≤ s.size := by omega
      have HE := Lib.hid (hX.out.at_end (by omega))
      obtain ⟨a, c, rfl⟩ := ho.out.sl
      go_wp2_with fail
      go_ret2
      exact spR_yes HE.out ho.out hb0.out
theorem split_any (s : ByteArray) (hs : s.size ≤ 3000) (w : World) : Calls Tryd.prog 14 #[.string s] w fun r w' => ∃ a c ev, r = .returned (.tuple #[.slice a (mks (spl s.data.toList 0 [] []).1).length c, ev]) ∧ Rd w' (txD (mks (spl s.data.toList 0 [] []).1)) (.slice a (mks (spl s.data.toList 0 [] []).1).length c) ∧ Ee w' (spl s.data.toList 0 [] []).2.1 (spl s.data.toList 0 [] []).2.2 ev ∧ Below w.heap.size w w' := splitR_any s hs w
end Go.Proofs.YtmgobcekhgljeaaDoor.Esc
