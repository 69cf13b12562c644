import Derived.Test.YtmgpngfgmfdldaaGreatDoorDskB

/- A slice of snapshots of the call's own, its block known whole; appends onto it, and what they leave. -/
namespace Go.Proofs.YtmgpngfgmfdldaaGreatDoor.Slt
open Go.RowKit Go.Proofs.YtmgpngfgmfdldaaGreatDoor.Dsk

set_option linter.unusedVariables false
abbrev Z2 : Wr := (0, ByteArray.empty)
theorem zeros_pair (n : Nat) : (Builtin.zeroCells #[Value.int .i64 0, Value.string ByteArray.empty] n).toList = WV (List.replicate n Z2) := by
  apply List.ext_getElem
  · rw [WV_length]; simp [Builtin.zeroCells]
  · intro i h1 h2
    rw [WV_length, List.length_replicate] at h2
    obtain ⟨g0, g1⟩ := WV_get (List.replicate n Z2) (i / 2) (by simp; omega)
    have hb : i % 2 = 0 ∨ i % 2 = 1 := by omega
    rcases hb with h | h
    · have e : i / 2 * 2 = i := by omega
      rw [e, List.getElem?_eq_getElem (by rw [WV_length]; simp; omega)] at g0
      simp [Builtin.zeroCells, h]
      have := Option.some.inj g0
      rw [this]; simp
    · have e : i / 2 * 2 + 1 = i := by omega
      rw [e, List.getElem?_eq_getElem (by rw [WV_length]; simp; omega)] at g1
      simp [Builtin.zeroCells, h]
      have := Option.some.inj g1
      rw [this]; simp

/-- The slice value v is a row of the call's own that reads as M; what is spare is zero. -/
def PRow (w : World) (base : Nat) (v : Value) (M : List Wr) : Prop :=
  (v = .slice none 0 0 ∧ M = []) ∨ ∃ g cap r, v = .slice (some ⟨g, 0, none⟩) M.length cap ∧ base ≤ g ∧ Blk w g 50 (WV (M ++ List.replicate r Z2)) ∧ M.length + r = cap ∧ cap ≤ maxLen ∧ 0 < cap

theorem PRow.nil (w : World) (base : Nat) : PRow w base (.slice none 0 0) [] := .inl ⟨rfl, rfl⟩
theorem PRow.val {w : World} {base : Nat} {v : Value} {M : List Wr} (h : PRow w base v M) : ∃ a cap, v = .slice a M.length cap ∧ RV w a M.length 2 (WV M) := by
  rcases h with ⟨rfl, rfl⟩ | ⟨g, cap, r, rfl, hb, hB, hc, hm, h0⟩
  · exact ⟨none, 0, rfl, RV.nil _ _ _⟩
  · refine ⟨_, cap, rfl, ⟨WV_length _, fun _ => ⟨g, 0, rfl, hB.lt, fun i hi => ?_⟩⟩⟩
    have hi' : i < (WV (M ++ List.replicate r Z2)).length := by rw [WV_append, List.length_append]; omega
    rw [Nat.zero_add, hB.cell hi']
    simp only [WV_append]
    rw [List.getElem_append_left hi]
theorem PRow.lt {w : World} {base : Nat} {v : Value} {M : List Wr} (h : PRow w base v M) : ∀ g, v.ownBlock = some g → base ≤ g ∧ g < w.heap.size := by
  intro g hg
  rcases h with ⟨rfl, rfl⟩ | ⟨g', cap, r, rfl, hb, hB, hc, hm, h0⟩
  · simp [Value.ownBlock] at hg
  · simp only [Value.ownBlock, Option.some.injEq] at hg
    subst hg
    exact ⟨hb, hB.lt⟩
theorem PRow.kept {w w' : World} {base : Nat} {v : Value} {M : List Wr} (h : PRow w base v M) (hg : ∀ g, v.ownBlock = some g → w'.heap[g]? = w.heap[g]?) : PRow w' base v M := by
  rcases h with ⟨rfl, rfl⟩ | ⟨g', cap, r, rfl, hb, hB, hc, hm, h0⟩
  · exact .inl ⟨rfl, rfl⟩
  · exact .inr ⟨g', cap, r, rfl, hb, hB.of_block (hg g' rfl), hc, hm, h0⟩
theorem PRow.call {w w' : World} {base : Nat} {v : Value} {M : List Wr} (h : PRow w base v M) (hb : Below w.heap.size w w') : PRow w' base v M := h.kept fun g hg => hb.block g (h.lt g hg).2
theorem PRow.other {w w' : World} {base : Nat} {v : Value} {M : List Wr} (h : PRow w base v M) {b : Nat} (hg : w.grownBy w' (some b)) (hne : v.ownBlock ≠ some b) : PRow w' base v M :=
  h.kept fun g e => hg.block g (h.lt g e).2 (by rw [← e]; exact hne)
/-- Its block has a text. -/
theorem PRow.ne {w : World} {base : Nat} {v : Value} {M : List Wr} (h : PRow w base v M) {b : Nat} (hn : NoStr w b) : v.ownBlock ≠ some b := by
  intro e
  rcases h with ⟨rfl, rfl⟩ | ⟨g, cap, r, rfl, hb, hB, hc, hm, h0⟩
  · simp [Value.ownBlock] at e
  · simp only [Value.ownBlock, Option.some.injEq] at e
    subst e
    have hl : 0 < (M ++ List.replicate r Z2).length := by simp; omega
    obtain ⟨-, g1⟩ := WV_get (M ++ List.replicate r Z2) 0 hl
    obtain ⟨hi, e1⟩ := List.getElem?_eq_some_iff.1 g1
    have := hB.cell hi
    rw [e1] at this
    exact hn _ _ this

/-- What is neither 0 nor the empty text stays. -/
def Stays (w w' : World) : Prop := ∀ (b j : Nat) (u : Value), w.cell? ⟨b, j, none⟩ = some u → u ≠ .int .i64 0 → u ≠ .string ByteArray.empty → w'.cell? ⟨b, j, none⟩ = some u

theorem stays_of {w w' : World} (h : ∀ k, k < w.heap.size → w'.heap[k]? = w.heap[k]?) : Stays w w' := fun b j u hu _ _ => (World.cell?_of_block (a := ⟨b, j, none⟩) (h b (cell_lt hu))).trans hu

theorem wv_spot (M R : List Wr) (x : Wr) (j : Nat) (u : Value) (h : (WV (M ++ Z2 :: R))[j]? = some u) (h0 : u ≠ .int .i64 0) (h1 : u ≠ .string ByteArray.empty) : (WV (M ++ x :: R))[j]? = some u := by
  have e : ∀ y : Wr, WV (M ++ y :: R) = WV M ++ (.int .i64 y.1 :: .string y.2 :: WV R) := fun y => by simp [WV]
  rw [e] at h ⊢
  by_cases hj : j < (WV M).length
  · rw [List.getElem?_append_left hj] at h ⊢; exact h
  · rw [List.getElem?_append_right (by omega)] at h ⊢
    generalize j - (WV M).length = k at *
    match k with
    | 0 => simp at h; exact absurd h.symm h0
    | 1 => simp at h; exact absurd h.symm h1
    | k + 2 => simpa using h

theorem Dev.stays {w w' : World} {A : Option Addr} {n c : Nat} {A' : Option Addr} {m c' : Nat} {f : Int} {S : List ByteArray} {W : List Wr} (h : Dev w A n c A' m c' f S W) (hs : Stays w w') (hz : w.heap.size ≤ w'.heap.size) (h1 : ∀ s ∈ S, s.size = 64) (h2 : ∀ x ∈ W, x.2.size = 64 ∧ x.1 ≠ 0) : Dev w' A n c A' m c' f S W := by
  have hne : ∀ s : ByteArray, s.size = 64 → Value.string s ≠ .string ByteArray.empty := fun s hs e => by
    injection e with e
    rw [e] at hs
    exact absurd hs (by decide)
  refine ⟨⟨h.sec.1, fun hn => ?_⟩, ⟨h.wr.1, fun hn => ?_⟩, h.lo, h.hi, h.ns, h.nw⟩
  · obtain ⟨b, off, e, hb, hc⟩ := h.sec.2 hn
    refine ⟨b, off, e, by omega, fun i hi => hs _ _ _ (hc i hi) ?_ ?_⟩
    · obtain ⟨s, _, e⟩ := List.mem_map.1 (List.getElem_mem hi)
      rw [← e]; simp
    · obtain ⟨s, hm, e⟩ := List.mem_map.1 (List.getElem_mem hi)
      rw [← e]; exact hne s (h1 s hm)
  · obtain ⟨b, off, e, hb, hc⟩ := h.wr.2 hn
    refine ⟨b, off, e, by omega, fun i hi => hs _ _ _ (hc i hi) ?_ ?_⟩
    · obtain ⟨x, hm, e⟩ := List.mem_flatMap.1 (List.getElem_mem hi)
      simp only [List.mem_cons, List.not_mem_nil, or_false] at e
      rcases e with e | e
      · rw [e]; intro h; injection h with _ h; exact (h2 x hm).2 h
      · rw [e]; simp
    · obtain ⟨x, hm, e⟩ := List.mem_flatMap.1 (List.getElem_mem hi)
      simp only [List.mem_cons, List.not_mem_nil, or_false] at e
      rcases e with e | e
      · rw [e]; simp
      · rw [e]; exact hne _ (h2 x hm).1

theorem St.row {w w' : World} {b : Nat} {A : Option Addr} {n c : Nat} {A' : Option Addr} {m c' : Nat} {f : Int} (h : St w b A n c A' m c' f) {base : Nat} {v : Value} {M : List Wr} (hr : PRow w base v M) (hg : w.grownBy w' v.ownBlock) : St w' b A n c A' m c' f :=
  h.of_block (hg.block b h.lt (fun e => hr.ne h.ns e.symm))
theorem IRow.row {w w' : World} {bi : Nat} {u : Value} {zs : List Int} (h : IRow w bi u zs) {base : Nat} {v : Value} {M : List Wr} (hr : PRow w base v M) (hg : w.grownBy w' v.ownBlock) : IRow w' bi u zs :=
  h.kept fun g e => hg.block g (h.lt g e).2 (fun e' => hr.ne (h.noStr g e) e'.symm)

end Go.Proofs.YtmgpngfgmfdldaaGreatDoor.Slt

/- A slice of texts of the call's own, its block known whole; appends onto it, and what they leave. -/
namespace Go.Proofs.YtmgpngfgmfdldaaGreatDoor.Slt
open Go.RowKit Go.Proofs.YtmgpngfgmfdldaaGreatDoor.Dsk

abbrev E0 : ByteArray := ByteArray.empty
theorem zeros_str (n : Nat) : (Builtin.zeroCells #[Value.string ByteArray.empty] n).toList = SV (List.replicate n E0) := by
  apply List.ext_getElem
  · rw [SV_length]; simp [Builtin.zeroCells]
  · intro i h1 h2
    simp [Builtin.zeroCells, SV, Nat.mod_one]
theorem SV_app (A B : List ByteArray) : SV (A ++ B) = SV A ++ SV B := by simp [SV]

/-- The slice value v is a row of the call's own that reads as M; what is spare is empty. -/
def TRow (w : World) (base : Nat) (v : Value) (M : List ByteArray) : Prop :=
  (v = .slice none 0 0 ∧ M = []) ∨ ∃ g cap r, v = .slice (some ⟨g, 0, none⟩) M.length cap ∧ base ≤ g ∧ Blk w g 9 (SV (M ++ List.replicate r E0)) ∧ M.length + r = cap ∧ cap ≤ maxLen ∧ 0 < cap

theorem TRow.nil (w : World) (base : Nat) : TRow w base (.slice none 0 0) [] := .inl ⟨rfl, rfl⟩
theorem TRow.val {w : World} {base : Nat} {v : Value} {M : List ByteArray} (h : TRow w base v M) : ∃ a cap, v = .slice a M.length cap ∧ RV w a M.length 1 (SV M) := by
  rcases h with ⟨rfl, rfl⟩ | ⟨g, cap, r, rfl, hb, hB, hc, hm, h0⟩
  · exact ⟨none, 0, rfl, RV.nil _ _ _⟩
  · refine ⟨_, cap, rfl, ⟨by rw [SV_length, Nat.mul_one], fun _ => ⟨g, 0, rfl, hB.lt, fun i hi => ?_⟩⟩⟩
    have hi' : i < (SV (M ++ List.replicate r E0)).length := by rw [SV_app, List.length_append]; omega
    rw [Nat.zero_add, hB.cell hi']
    simp only [SV_app]
    rw [List.getElem_append_left hi]
theorem TRow.lt {w : World} {base : Nat} {v : Value} {M : List ByteArray} (h : TRow w base v M) : ∀ g, v.ownBlock = some g → base ≤ g ∧ g < w.heap.size := by
  intro g hg
  rcases h with ⟨rfl, rfl⟩ | ⟨g', cap, r, rfl, hb, hB, hc, hm, h0⟩
  · simp [Value.ownBlock] at hg
  · simp only [Value.ownBlock, Option.some.injEq] at hg
    subst hg
    exact ⟨hb, hB.lt⟩
theorem TRow.kept {w w' : World} {base : Nat} {v : Value} {M : List ByteArray} (h : TRow w base v M) (hg : ∀ g, v.ownBlock = some g → w'.heap[g]? = w.heap[g]?) : TRow w' base v M := by
  rcases h with ⟨rfl, rfl⟩ | ⟨g', cap, r, rfl, hb, hB, hc, hm, h0⟩
  · exact .inl ⟨rfl, rfl⟩
  · exact .inr ⟨g', cap, r, rfl, hb, hB.of_block (hg g' rfl), hc, hm, h0⟩
theorem TRow.call {w w' : World} {base : Nat} {v : Value} {M : List ByteArray} (h : TRow w base v M) (hb : Below w.heap.size w w') : TRow w' base v M := h.kept fun g hg => hb.block g (h.lt g hg).2
theorem TRow.other {w w' : World} {base : Nat} {v : Value} {M : List ByteArray} (h : TRow w base v M) {b : Nat} (hg : w.grownBy w' (some b)) (hne : v.ownBlock ≠ some b) : TRow w' base v M :=
  h.kept fun g e => hg.block g (h.lt g e).2 (by rw [← e]; exact hne)
/-- Its block has a text. -/
theorem TRow.ne {w : World} {base : Nat} {v : Value} {M : List ByteArray} (h : TRow w base v M) {b : Nat} (hn : NoStr w b) : v.ownBlock ≠ some b := by
  intro e
  rcases h with ⟨rfl, rfl⟩ | ⟨g, cap, r, rfl, hb, hB, hc, hm, h0⟩
  · simp [Value.ownBlock] at e
  · simp only [Value.ownBlock, Option.some.injEq] at e
    subst e
    have hl : 0 < (SV (M ++ List.replicate r E0)).length := by rw [SV_length]; simp; omega
    have := hB.cell hl
    have e1 : (SV (M ++ List.replicate r E0))[0]'hl = .string ((M ++ List.replicate r E0)[0]'(by rw [SV_length] at hl; exact hl)) := by simp only [SV, List.getElem_map]
    rw [e1] at this
    exact hn _ _ this

theorem sv_spot (M R : List ByteArray) (x : ByteArray) (j : Nat) (u : Value) (h : (SV (M ++ E0 :: R))[j]? = some u) (h1 : u ≠ .string ByteArray.empty) : (SV (M ++ x :: R))[j]? = some u := by
  have e : ∀ y : ByteArray, SV (M ++ y :: R) = SV M ++ (.string y :: SV R) := fun y => by simp [SV]
  rw [e] at h ⊢
  by_cases hj : j < (SV M).length
  · rw [List.getElem?_append_left hj] at h ⊢; exact h
  · rw [List.getElem?_append_right (by omega)] at h ⊢
    generalize j - (SV M).length = k at *
    match k with
    | 0 => simp at h; exact absurd h.symm h1
    | k + 1 => simpa using h

/-- One text more. -/
theorem TRow.append {w : World} {base : Nat} {v : Value} {M : List ByteArray} (h : TRow w base v M) (a : Addr) (c : Nat) (x : ByteArray) (hx0 : w.cell? (a.add 0) = some (.string x)) (hk : M.length ≤ 100000) (hb : base ≤ w.heap.size) :
    ∃ v' w', (Builtin.append_ #[22, 22] 22 #[v, .slice (some a) 1 c]).run Tryz.prog w = .ok v' w' ∧ TRow w' base v' (M ++ [x]) ∧ w.grownBy w' v.ownBlock ∧ Stays w w' := by
  obtain ⟨i, hi, hz⟩ := Option.map_eq_some_iff.1 Dsk.info9
  simp only [Prod.mk.injEq] at hz
  obtain ⟨hz1, hz2, hz3⟩ := hz
  have hnews : ∀ j u, [Value.string x][j]? = some u → w.cell? (a.add j) = some u := by
    intro j u hu
    match j with
    | 0 => simp at hu; subst hu; exact hx0
    | j + 1 => simp at hu
  have hl : [Value.string x].length = 1 * i.size := by rw [hz2]; rfl
  have ex : ∀ R : List ByteArray, SV (M ++ [x] ++ R) = SV M ++ [Value.string x] ++ SV R := fun R => by simp [SV]
  have hzc : (Value.string ByteArray.empty).cells = #[Value.string ByteArray.empty] := by rfl
  rcases h with ⟨rfl, rfl⟩ | ⟨g, cap, r, rfl, hbg, hB, hc, hm, h0⟩
  · have hr := run_append_nil (P := Tryz.prog) w 22 22 9 i _ Tryz.underlying22 hi hz1 a 1 c _ hl hnews (by omega) (by omega) (by rw [hz3]; omega)
    have hge := grownCap_ge w 1 0 9
    refine ⟨_, _, hr, .inr ⟨w.heap.size, _, grownCap w 1 0 9 - 1, rfl, hb, ?_, by simp; omega, grownCap_le_maxLen w 1 0 9 (by unfold maxLen; omega), by omega⟩, ⟨rfl, rfl, rfl, by simp, fun k hk _ => Below.heap_alloc w.drew _ k hk⟩, stays_of fun k hk => Below.heap_alloc w.drew _ k hk⟩
    have hn := Blk.new w.drew 9 ([Value.string x].toArray ++ Builtin.zeroCells (Value.string ByteArray.empty).cells (grownCap w 1 0 9 - 1))
    rw [Array.toList_append] at hn
    rw [hzc, zeros_str] at hn
    rw [hzc, ex]
    exact hn
  · by_cases hroom : M.length + 1 ≤ cap
    · obtain ⟨r, rfl⟩ : ∃ r', r = r' + 1 := ⟨r - 1, by omega⟩
      have hWl : (SV M).length = M.length * 1 := by rw [SV_length, Nat.mul_one]
      have hr := run_append_room (P := Tryz.prog) w 22 22 9 i Tryz.underlying22 hi g M.length cap (SV (M ++ List.replicate (r + 1) E0)).toArray hB a 1 c _ hl hnews (by simp [Value.oneCell']) hroom (by rw [hz2]; simp [SV_length])
      have hs := setRow_heap w g (SV (M ++ List.replicate (r + 1) E0)).toArray ((SV (M ++ List.replicate (r + 1) E0)).toArray.toList.take (M.length * i.size) ++ [Value.string x] ++ (SV (M ++ List.replicate (r + 1) E0)).toArray.toList.drop (M.length * i.size + [Value.string x].length)).toArray 9 _ hB
      have e : (SV (M ++ List.replicate (r + 1) E0)).toArray.toList.take (M.length * i.size) ++ [Value.string x] ++ (SV (M ++ List.replicate (r + 1) E0)).toArray.toList.drop (M.length * i.size + [Value.string x].length) = SV (M ++ [x] ++ List.replicate r E0) := by
        have ez : SV (M ++ List.replicate (r + 1) E0) = SV M ++ (Value.string ByteArray.empty :: SV (List.replicate r E0)) := by rw [List.replicate_succ]; simp [SV]
        rw [hz2, ex, ez, List.toList_toArray, ← hWl, List.take_left']
        · rw [List.drop_append, List.drop_of_length_le (by simp), List.nil_append]
          simp
        · rfl
      rw [e] at hs hr
      have hst : ∀ k, k ≠ g → (w.setRow g (SV (M ++ [x] ++ List.replicate r E0)).toArray).heap[k]? = w.heap[k]? := fun k hk => setRow_other w g k _ hk
      refine ⟨_, _, hr, .inr ⟨g, cap, r, by simp, hbg, hs, by simp at hc ⊢; omega, hm, h0⟩, ⟨rfl, rfl, rfl, by simp, fun k _ hk => hst k (fun e => hk (by simp [Value.ownBlock, e]))⟩, ?_⟩
      intro b j u hu n0 n1
      by_cases hbg : b = g
      · subst hbg
        rw [cell_of_row w b j _ 9 _ hB, List.getElem?_toArray, List.replicate_succ] at hu
        rw [cell_of_row _ b j _ 9 _ hs, List.getElem?_toArray]
        have := sv_spot M (List.replicate r E0) x j u hu n1
        rw [List.append_assoc]
        exact this
      · exact (World.cell?_of_block (a := ⟨b, j, none⟩) (hst b hbg)).trans hu
    · have hrest : r = 0 := by omega
      subst hrest
      rw [List.replicate_zero, List.append_nil] at hB
      have holds : ∀ j u, (SV M)[j]? = some u → w.cell? ((⟨g, 0, none⟩ : Addr).add j) = some u := fun j u hu => by
        obtain ⟨hj, rfl⟩ := List.getElem?_eq_some_iff.1 hu
        rw [add_none, Nat.zero_add]; exact hB.cell hj
      have hr := run_append_grow (P := Tryz.prog) w 22 22 9 i _ Tryz.underlying22 hi hz1 ⟨g, 0, none⟩ M.length cap (SV M) (by rw [SV_length, hz2, Nat.mul_one]) holds a 1 c _ hl hnews (by omega) (by omega) (growslice_fits (by omega) (by rw [hz3]; omega))
      have hge := grownCap_ge w (M.length + 1) cap 9
      refine ⟨_, _, hr, .inr ⟨w.heap.size, grownCap w (M.length + 1) cap 9, grownCap w (M.length + 1) cap 9 - (M.length + 1), by simp, hb, ?_, by simp; omega, grownCap_le_maxLen w _ _ 9 (by unfold maxLen; omega), by omega⟩, ⟨rfl, rfl, rfl, by simp, fun k hk _ => Below.heap_alloc w.drew _ k hk⟩, stays_of fun k hk => Below.heap_alloc w.drew _ k hk⟩
      have hn := Blk.new w.drew 9 ((SV M).toArray ++ [Value.string x].toArray ++ Builtin.zeroCells (Value.string ByteArray.empty).cells (grownCap w (M.length + 1) cap 9 - (M.length + 1)))
      rw [Array.toList_append, Array.toList_append, hzc, zeros_str] at hn
      rw [hzc, ex]
      exact hn

theorem St.trow {w w' : World} {b : Nat} {A : Option Addr} {n c : Nat} {A' : Option Addr} {m c' : Nat} {f : Int} (h : St w b A n c A' m c' f) {base : Nat} {v : Value} {M : List ByteArray} (hr : TRow w base v M) (hg : w.grownBy w' v.ownBlock) : St w' b A n c A' m c' f :=
  h.of_block (hg.block b h.lt (fun e => hr.ne h.ns e.symm))

end Go.Proofs.YtmgpngfgmfdldaaGreatDoor.Slt
