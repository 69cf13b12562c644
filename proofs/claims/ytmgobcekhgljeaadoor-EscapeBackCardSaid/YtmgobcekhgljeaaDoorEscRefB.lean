/- Contracts of the document's escape (errandref16): Split, Unescape. -/
import Derived.Test.YtmgobcekhgljeaaDoorEscRefA
set_option linter.unusedVariables false
namespace Go.Proofs.YtmgobcekhgljeaaDoor.Esc
open Go.RowKit Go.Deep Go.Proofs.YtmgobcekhgljeaaDoor.Byt Go.Proofs.YtmgobcekhgljeaaDoor.Utf Go.Proofs.YtmgobcekhgljeaaDoor.Tre Go.Proofs.YtmgobcekhgljeaaDoor.Txt

/-- Parts, and the one under way. -/
structure Sp (w wr : World) (ls : List (List UInt8)) (b : List UInt8) (v u : Value) (F G : List Nat) : Prop where
  ol : Txt.Ow w wr (txD (mks ls)) v F
  ob : Txt.Ow w wr (bD b) u G
  dj : ∀ g ∈ F, g ∉ G
  bl : Bl w wr
theorem Sp.start (w : World) : Sp w w [] [] (.slice none 0 0) (.slice none 0 0) [] [] := ⟨Txt.Ow.nil _ _, Txt.Ow.bnil _ _, fun g h => by simp at h, Bl.refl w⟩
/-- A byte more of the part under way. -/
theorem Sp.byte {w wr : World} {ls : List (List UInt8)} {b : List UInt8} {v u : Value} {F G : List Nat} (h : Sp w wr ls b v u F G) (x : UInt8) {z : Int} (hz : z = x.toNat) (hn : b.length ≤ 100000) :
    ∃ u' w' G', (Builtin.append_ #[43, 43] 43 #[u, .slice (some ⟨wr.heap.size, 0, none⟩) 1 1]).run Tryd.prog (wr.alloc (.cells #[.int .u8 z] 5)) = .ok u' w' ∧ Sp w w' ls (b ++ [x]) v u' F G' := by
  obtain ⟨u', w', G', r1, r2, r3, r4, r5, r6⟩ := bytes_new h.ob h.bl x hz hn
  have hlt := h.ol.own.lt
  refine ⟨u', w', G', r1, ⟨⟨h.ol.own.kept fun g hg => ?_, h.ol.nd⟩, r2, fun g hg hx => ?_, r3⟩⟩
  · rw [r5.block g (by simp; have := (hlt g hg).2; omega) (fun hy => h.dj g hg (r6 g hy.symm))]
    exact Below.heap_alloc _ _ g (hlt g hg).2
  · rcases r4 g hx with h1 | h1
    · exact h.dj g hg h1
    · have := (hlt g hg).2; omega
/-- A part more. -/
theorem Sp.part {w wr : World} {ls : List (List UInt8)} {b : List UInt8} {v u : Value} {F G : List Nat} (h : Sp w wr ls b v u F G) (hn : ls.length ≤ 100000) :
    ∃ v' w' F', (Builtin.append_ #[22, 22] 22 #[v, .slice (some ⟨wr.heap.size, 0, none⟩) 1 1]).run Tryd.prog (wr.alloc (.cells #[.string ⟨b.toArray⟩] 9)) = .ok v' w' ∧ Sp w w' (ls ++ [b]) [] v' (.slice none 0 0) F' [] := by
  obtain ⟨v', w', F', r1, r2, r3, r4, r5, r6⟩ := texts_new h.ol h.bl ⟨b.toArray⟩ (by rw [mks_len]; exact hn)
  rw [← mks_snoc] at r2
  exact ⟨v', w', F', r1, ⟨r2, Txt.Ow.bnil _ _, fun g _ => by simp, r3⟩⟩
theorem Sp.text {w wr : World} {ls : List (List UInt8)} {b : List UInt8} {v u : Value} {F G : List Nat} (h : Sp w wr ls b v u F G) : (convert 43 9 u).run Tryd.prog wr = .ok (.string ⟨b.toArray⟩) wr := (own_bytes h.ob.own).1.text
/-- What Split answers. -/
def SplR (w : World) (x : List (List UInt8) × Int × Int) (r : Ending) (w' : World) : Prop := ∃ a c, r = .returned (.tuple #[.slice a (mks x.1).length c, .int .i64 x.2.1, .int .i64 x.2.2]) ∧ Rd w' (txD (mks x.1)) (.slice a (mks x.1).length c) ∧ Below w.heap.size w w'
theorem splR_no {w wr : World} {x : List (List UInt8) × Int × Int} {p : Int} (hx : x = ([], 4, p)) (hb : Bl w wr) : SplR w x (.returned (.tuple #[.slice none 0 0, .int .i64 4, .int .i64 p])) wr := by
  subst hx
  exact ⟨none, 0, rfl, .nil _ _ _ _, hb.below⟩
theorem splR_yes {w wr : World} {x : List (List UInt8) × Int × Int} {ls : List (List UInt8)} {v : Value} (hx : x = (ls, 0, 0)) (h : Rd wr (txD (mks ls)) v) (hb : Bl w wr) : SplR w x (.returned (.tuple #[v, .int .i64 0, .int .i64 0])) wr := by
  subst hx
  obtain ⟨a, c, rfl⟩ := sl_of h
  exact ⟨a, c, rfl, h, hb.below⟩
/-- Where Split stands. -/
structure Sq (s : ByteArray) (k : Nat) (ls : List (List UInt8)) (b : List UInt8) : Prop where
  q : spl s.data.toList 0 [] [] = spl (s.data.toList.drop k) k b ls
  n : ls.length ≤ k
  m : b.length ≤ k
set_option maxRecDepth 20000 in
set_option maxHeartbeats 1000000 in
theorem rsplit_any (s : ByteArray) (hs : s.size ≤ 1000) (w : World) : Calls Tryd.prog 15 #[.string s] w (SplR w (spl s.data.toList 0 [] [])) := by
  have HS := Lib.hid hs
  have HB0 := Lib.hid (Sp.start w)
  go_enter Tryd.func15, Tryd.ntmps15
  go_wp2_with fail
  go_loopw [5, 6, 7] (fun v u i wr => ∃ (k : Nat) (ls : List (List UInt8)) (b : List UInt8) (F G : List Nat), k ≤ s.size ∧ i = .int .i64 k ∧ Hid (Sq s k ls b) ∧ Hid (Sp w wr ls b v u F G)) (fun _ _ i _ => s.size - (intOf i).toNat)
  case atStart => exact ⟨0, [], [], [], [], Nat.zero_le _, rfl, Lib.hid ⟨by simp, Nat.le_refl _, Nat.le_refl _⟩, HB0⟩
  case round =>
    obtain ⟨k, ls, b, F, G, hk, rfl, hq, hp⟩ := hrel
    have hn := hq.out.n
    have hm := hq.out.m
    by_cases h : k < s.size
    · have h' : (k : Int) < s.size := by omega
      have hd := drop_at h
      by_cases c1 : (s[k]'h).toNat = 44
      · obtain ⟨v', w', F', ra, rp⟩ := hp.out.part (by omega)
        have hcv := hp.out.text
        have HQ := Lib.hid (Sq.mk (k := k + 1) (ls := ls ++ [b]) (b := []) (hq.out.q.trans (by rw [hd, spl_comma c1]; rfl)) (by simp; omega) (by simp))
        have HA := Lib.hid ra
        have RP := Lib.hid rp
        clear ra rp hd hq hp
        generalize ByteArray.mk b.toArray = y at *
        go_wp2_with (at_builtin; refine Byt.wpList_append_run rfl (.tmp 21) (.tmp 24) 22 22 rfl _ _ rfl rfl v' w' HA.out ?_)
        go_roundw
        case rel => exact ⟨k + 1, ls ++ [b], [], F', [], by omega, by go_num, HQ, RP⟩
        case measure => simp [intOf]; omega
      · have t1 : (((s[k]'h).toNat : Int) == 44) = false := by rw [beq_eq_false_iff_ne]; omega
        by_cases c2 : (s[k]'h).toNat = 59
        · have HX := Lib.hid (hq.out.q.trans (by rw [hd, spl_semi c2]))
          have HB := Lib.hid hp.out.bl
          clear hd hq hp
          go_wp2_with fail
          go_ret3
          exact splR_no HX.out HB.out
        · have t2 : (((s[k]'h).toNat : Int) == 59) = false := by rw [beq_eq_false_iff_ne]; omega
          by_cases c3 : (s[k]'h).toNat = 92
          · by_cases h2 : k + 1 < s.size
            · have hd2 := drop_at h2
              have k1 : (((k : Int) + 1) == s.size) = false := by rw [beq_eq_false_iff_ne]; omega
              have k2 : (k : Int) + 1 < s.size := by omega
              cases htl : tl (s[k + 1]'h2) with
              | none =>
                have HX := Lib.hid (hq.out.q.trans (by rw [hd, hd2, spl_bad c3 htl]))
                have HB := Lib.hid hp.out.bl
                have hno : ¬ ((s[k + 1]'h2).toNat = 110 ∨ (s[k + 1]'h2).toNat = 78) ∧ ¬ ((s[k + 1]'h2).toNat = 92 ∨ (s[k + 1]'h2).toNat = 59 ∨ (s[k + 1]'h2).toNat = 44) := by
                  unfold tl at htl
                  constructor
                  · intro x; rw [if_pos x] at htl; cases htl
                  · intro x; by_cases y : (s[k + 1]'h2).toNat = 110 ∨ (s[k + 1]'h2).toNat = 78
                    · omega
                    · rw [if_neg y, if_pos x] at htl; cases htl
                obtain ⟨n1, n2⟩ := hno
                have u1 : (((s[k + 1]'h2).toNat : Int) == 110) = false := by rw [beq_eq_false_iff_ne]; omega
                have u2 : (((s[k + 1]'h2).toNat : Int) == 78) = false := by rw [beq_eq_false_iff_ne]; omega
                have u3 : (((s[k + 1]'h2).toNat : Int) == 92) = false := by rw [beq_eq_false_iff_ne]; omega
                have u4 : (((s[k + 1]'h2).toNat : Int) == 59) = false := by rw [beq_eq_false_iff_ne]; omega
                have u5 : (((s[k + 1]'h2).toNat : Int) == 44) = false := by rw [beq_eq_false_iff_ne]; omega
                clear hd hd2 hq hp n1 n2 htl
                go_wp2_with fail
                go_ret3
                exact splR_no HX.out HB.out
              | some x =>
                have HQ := Lib.hid (Sq.mk (k := k + 2) (ls := ls) (b := b ++ [x]) (hq.out.q.trans (by rw [hd, hd2, spl_told c3 htl]; rfl)) (by omega) (by simp; omega))
                unfold tl at htl
                by_cases d1 : (s[k + 1]'h2).toNat = 110 ∨ (s[k + 1]'h2).toNat = 78
                · rw [if_pos d1] at htl
                  obtain rfl : (10 : UInt8) = x := by injection htl
                  obtain ⟨u', w', G', ra, rp⟩ := hp.out.byte 10 (z := 10) rfl (by omega)
                  have HA := Lib.hid ra
                  have RP := Lib.hid rp
                  clear ra rp hd hd2 hq hp htl
                  rcases d1 with d1 | d1
                  · go_wp2_with (at_builtin; refine Byt.wpList_append_run rfl (.tmp 51) (.tmp 52) 43 43 rfl _ _ rfl rfl u' w' HA.out ?_)
                    go_roundw
                    case rel => exact ⟨k + 2, ls, b ++ [10], F, G', by omega, by go_num, HQ, RP⟩
                    case measure => simp [intOf]; omega
                  · go_wp2_with (at_builtin; refine Byt.wpList_append_run rfl (.tmp 51) (.tmp 52) 43 43 rfl _ _ rfl rfl u' w' HA.out ?_)
                    go_roundw
                    case rel => exact ⟨k + 2, ls, b ++ [10], F, G', by omega, by go_num, HQ, RP⟩
                    case measure => simp [intOf]; omega
                · rw [if_neg d1] at htl
                  have d2 : (s[k + 1]'h2).toNat = 92 ∨ (s[k + 1]'h2).toNat = 59 ∨ (s[k + 1]'h2).toNat = 44 := by
                    by_cases y : (s[k + 1]'h2).toNat = 92 ∨ (s[k + 1]'h2).toNat = 59 ∨ (s[k + 1]'h2).toNat = 44
                    · exact y
                    · rw [if_neg y] at htl; cases htl
                  rw [if_pos d2] at htl
                  have hx : (s[k + 1]'h2) = x := by injection htl
                  obtain ⟨u', w', G', ra, rp⟩ := hp.out.byte x (z := ((s[k + 1]'h2).toNat : Int)) (by rw [hx]) (by omega)
                  have HA := Lib.hid ra
                  have RP := Lib.hid rp
                  have u1 : (((s[k + 1]'h2).toNat : Int) == 110) = false := by rw [beq_eq_false_iff_ne]; omega
                  have u2 : (((s[k + 1]'h2).toNat : Int) == 78) = false := by rw [beq_eq_false_iff_ne]; omega
                  clear ra rp hd hd2 hq hp htl d1 hx
                  rcases d2 with d2 | d2 | d2
                  · rw [d2] at HA
                    go_wp2_with (at_builtin; refine Byt.wpList_append_run rfl (.tmp 64) (.tmp 66) 43 43 rfl _ _ rfl rfl u' w' HA.out ?_)
                    go_roundw
                    case rel => exact ⟨k + 2, ls, b ++ [x], F, G', by omega, by go_num, HQ, RP⟩
                    case measure => simp [intOf]; omega
                  · rw [d2] at HA
                    go_wp2_with (at_builtin; refine Byt.wpList_append_run rfl (.tmp 64) (.tmp 66) 43 43 rfl _ _ rfl rfl u' w' HA.out ?_)
                    go_roundw
                    case rel => exact ⟨k + 2, ls, b ++ [x], F, G', by omega, by go_num, HQ, RP⟩
                    case measure => simp [intOf]; omega
                  · rw [d2] at HA
                    go_wp2_with (at_builtin; refine Byt.wpList_append_run rfl (.tmp 64) (.tmp 66) 43 43 rfl _ _ rfl rfl u' w' HA.out ?_)
                    go_roundw
                    case rel => exact ⟨k + 2, ls, b ++ [x], F, G', by omega, by go_num, HQ, RP⟩
                    case measure => simp [intOf]; omega
            · have e : k + 1 = s.size := by omega
              have HX := Lib.hid (hq.out.q.trans (by rw [hd, e, drop_size, spl_end c3]))
              have HB := Lib.hid hp.out.bl
              have k1 : (((k : Int) + 1) == s.size) = true := by rw [beq_iff_eq]; omega
              clear hd hq hp e
              go_wp2_with fail
              go_ret3
              exact splR_no HX.out HB.out
          · have t3 : (((s[k]'h).toNat : Int) != 92) = true := by simp; omega
            have HQ := Lib.hid (Sq.mk (k := k + 1) (ls := ls) (b := b ++ [s[k]'h]) (hq.out.q.trans (by rw [hd, spl_byte ⟨c1, c2, c3⟩]; rfl)) (by omega) (by simp; omega))
            obtain ⟨u', w', G', ra, rp⟩ := hp.out.byte (s[k]'h) (z := ((s[k]'h).toNat : Int)) rfl (by omega)
            have HA := Lib.hid ra
            have RP := Lib.hid rp
            clear ra rp hd hq hp c1 c2 c3
            go_wp2_with (at_builtin; refine Byt.wpList_append_run rfl (.tmp 31) (.tmp 33) 43 43 rfl _ _ rfl rfl u' w' HA.out ?_)
            go_roundw
            case rel => exact ⟨k + 1, ls, b ++ [s[k]'h], F, G', by omega, by go_num, HQ, RP⟩
            case measure => simp [intOf]; omega
    · obtain rfl : k = s.size := by omega
      obtain ⟨v', w', F', ra, rp⟩ := hp.out.part (by omega)
      have hcv := hp.out.text
      have HX := Lib.hid (hq.out.q.trans (by rw [drop_size, spl_nil]))
      have HA := Lib.hid ra
      have RP := Lib.hid rp
      clear ra rp hq hp
      generalize ByteArray.mk b.toArray = y at *
      go_wp2_with (at_builtin; refine Byt.wpList_append_run rfl (.tmp 71) (.tmp 74) 22 22 rfl _ _ rfl rfl v' w' HA.out ?_)
      go_ret3
      exact splR_yes HX.out RP.out.ol.own.rd RP.out.bl
theorem spl_ne (L : List UInt8) : (spl L 0 [] []).2.1 = 0 → (spl L 0 [] []).1 ≠ [] := by
  have : ∀ (L : List UInt8) (p : Int) (b : List UInt8) (out : List (List UInt8)), (spl L p b out).2.1 = 0 → (spl L p b out).1 ≠ [] := by
    refine bytes2 (M := fun L => ∀ p b out, (spl L p b out).2.1 = 0 → (spl L p b out).1 ≠ []) (fun p b out _ => by rw [spl_nil]; simp) (fun c t h1 h2 p b out h0 => ?_)
    by_cases a : c.toNat = 92
    · cases t with
      | nil => rw [spl_end a] at h0; cases h0
      | cons d t =>
        rw [List.tail_cons] at h2
        cases hd : tl d with
        | none => rw [spl_bad a hd] at h0; cases h0
        | some x => rw [spl_told a hd] at h0 ⊢; exact h2 _ _ _ h0
    · by_cases a2 : c.toNat = 44
      · rw [spl_comma a2] at h0 ⊢; exact h1 _ _ _ h0
      · by_cases a3 : c.toNat = 59
        · rw [spl_semi a3] at h0; cases h0
        · rw [spl_byte (by omega)] at h0 ⊢; exact h1 _ _ _ h0
  exact this L 0 [] []
set_option maxRecDepth 20000 in
set_option maxHeartbeats 1000000 in
theorem runesc_any (s : ByteArray) (hs : s.size ≤ 1000) (w : World) : Calls Tryd.prog 13 #[.string s] w fun r w' => r = .returned (.tuple #[.string ⟨(une s.data.toList 0 []).1.toArray⟩, .int .i64 (une s.data.toList 0 []).2.1, .int .i64 (une s.data.toList 0 []).2.2]) ∧ Below w.heap.size w w' := by
  have HC := Lib.hid (fun W => comma_any s hs W)
  have hk := cm_le s.data.toList
  rw [len_list] at hk
  have hu := une_spl s.data.toList 0 []
  have hdl : (s.extract 0 (cm s.data.toList)).data.toList = s.data.toList.take (cm s.data.toList) := by simp
  have hsz : (s.extract 0 (cm s.data.toList)).size ≤ 1000 := by rw [ByteArray.size_extract]; omega
  have hp := fun W => rsplit_any (s.extract 0 (cm s.data.toList)) hsz W
  rw [hdl] at hp
  have hne := spl_ne (s.data.toList.take (cm s.data.toList))
  have HP := Lib.hid hp
  rw [len_list] at hu
  generalize spl (s.data.toList.take (cm s.data.toList)) 0 [] [] = x at *
  have HNE := Lib.hid hne
  clear hp hdl hne
  generalize cm s.data.toList = k at *
  have hk' : (k : Int) ≤ s.size := by omega
  unfold SplR at HP
  by_cases he : x.2.1 = 0
  · by_cases hlt : k < s.size
    · rw [if_neg (by omega), if_pos hlt, Int.zero_add] at hu
      rw [hu]
      have hlt' : (k : Int) < s.size := by omega
      clear hu
      rw [he] at HP
      go_enter Tryd.func13, Tryd.ntmps13
      go_wp2_with (first
        | (go_at_call 25; with_reducible refine (HC.out _).mono ?_; rintro r w' ⟨rfl, rfl⟩)
        | (go_at_call 15; with_reducible refine (HP.out _).mono ?_; rintro r w1 ⟨a, c, rfl, hr, hb⟩; have B1 := Lib.hid hb; clear hr hb))
      go_ret3
      exact ⟨rfl, B1.out⟩
    · rw [if_neg (by omega), if_neg hlt] at hu
      rw [hu]
      have hlt' : ¬ (k : Int) < s.size := by omega
      have hne := HNE.out he
      obtain ⟨y, ys, hxy⟩ : ∃ y ys, x.1 = y :: ys := by
        cases hq : x.1 with
        | nil => exact absurd hq hne
        | cons y ys => exact ⟨y, ys, rfl⟩
      rw [hxy] at HP ⊢
      rw [he] at HP
      have k0 : (0 : Int) < (mks (y :: ys)).length := by rw [mks_len, List.length_cons]; omega
      have HC0 := Lib.hid (fun (W : World) (a : Option Addr) (c : Nat) (hr : Rd W (txD (mks (y :: ys))) (.slice a (mks (y :: ys)).length c)) => (by
        obtain ⟨b, off, e, c0⟩ := text_at hr (i := 0) (by rw [mks_len]; simp)
        exact ⟨b, off, e, c0⟩ : ∃ b off, a = some ⟨b, off, none⟩ ∧ W.cell? ⟨b, off, none⟩ = some (.string ⟨y.toArray⟩)))
      clear hu hne hxy HNE
      go_enter Tryd.func13, Tryd.ntmps13
      go_wp2_with (first
        | (go_at_call 25; with_reducible refine (HC.out _).mono ?_; rintro r w' ⟨rfl, rfl⟩)
        | (go_at_call 15; with_reducible refine (HP.out _).mono ?_; rintro r w1 ⟨a, c, rfl, hr, hb⟩; have B1 := Lib.hid hb; obtain ⟨bb, off, rfl, c0⟩ := HC0.out _ _ _ hr; clear hr hb))
      go_ret3
      exact ⟨rfl, B1.out⟩
  · rw [if_pos he] at hu
    rw [hu]
    have te : (x.2.1 != 0) = true := by simpa using he
    clear hu HNE
    generalize x.2.1 = e at *
    generalize x.2.2 = p at *
    go_enter Tryd.func13, Tryd.ntmps13
    go_wp2_with (first
      | (go_at_call 25; with_reducible refine (HC.out _).mono ?_; rintro r w' ⟨rfl, rfl⟩)
      | (go_at_call 15; with_reducible refine (HP.out _).mono ?_; rintro r w1 ⟨a, c, rfl, hr, hb⟩; have B1 := Lib.hid hb; clear hr hb))
    go_ret3
    exact ⟨rfl, B1.out⟩
end Go.Proofs.YtmgobcekhgljeaaDoor.Esc
