/- A slice of numbers of the call's own, its block known whole; appends onto it. -/
import Derived.Test.YtaafkkmcpedeaaaDiskSt
namespace Go.Proofs.Ytaafkkmcpedeaaa.Dsk
open Go.RowKit

/-- The slice value v is a row of the call's own that reads as zs; all cells of its block are numbers. -/
def IRow (w : World) (base : Nat) (v : Value) (zs : List Int) : Prop :=
  (v = .slice none 0 0 ∧ zs = []) ∨ ∃ g cap rest, v = .slice (some ⟨g, 0, none⟩) zs.length cap ∧ base ≤ g ∧ Blk w g 3 (IV (zs ++ rest)) ∧ zs.length + rest.length = cap ∧ cap ≤ maxLen

theorem IV_append (a b : List Int) : IV (a ++ b) = IV a ++ IV b := by simp [IV]
theorem IRow.nil (w : World) (base : Nat) : IRow w base (.slice none 0 0) [] := .inl ⟨rfl, rfl⟩
theorem IRow.val {w : World} {base : Nat} {v : Value} {zs : List Int} (h : IRow w base v zs) : ∃ a cap, v = .slice a zs.length cap ∧ RV w a zs.length 1 (IV zs) := by
  rcases h with ⟨rfl, rfl⟩ | ⟨g, cap, rest, rfl, hb, hB, hc, hm⟩
  · exact ⟨none, 0, rfl, RV.nil _ _ _⟩
  · refine ⟨_, cap, rfl, ⟨by rw [IV_length]; omega, fun _ => ⟨g, 0, rfl, hB.lt, fun i hi => ?_⟩⟩⟩
    have hi' : i < (IV (zs ++ rest)).length := by rw [IV_append, List.length_append]; omega
    rw [Nat.zero_add, hB.cell hi']
    simp only [IV_append]
    rw [List.getElem_append_left hi]
theorem IRow.lt {w : World} {base : Nat} {v : Value} {zs : List Int} (h : IRow w base v zs) : ∀ g, v.ownBlock = some g → base ≤ g ∧ g < w.heap.size := by
  intro g hg
  rcases h with ⟨rfl, rfl⟩ | ⟨g', cap, rest, rfl, hb, hB, hc, hm⟩
  · simp [Value.ownBlock] at hg
  · simp only [Value.ownBlock, Option.some.injEq] at hg
    subst hg
    exact ⟨hb, hB.lt⟩
theorem IRow.kept {w w' : World} {base : Nat} {v : Value} {zs : List Int} (h : IRow w base v zs) (hg : ∀ g, v.ownBlock = some g → w'.heap[g]? = w.heap[g]?) : IRow w' base v zs := by
  rcases h with ⟨rfl, rfl⟩ | ⟨g', cap, rest, rfl, hb, hB, hc, hm⟩
  · exact .inl ⟨rfl, rfl⟩
  · exact .inr ⟨g', cap, rest, rfl, hb, hB.of_block (hg g' rfl), hc, hm⟩
theorem IRow.call {w w' : World} {base : Nat} {v : Value} {zs : List Int} (h : IRow w base v zs) (hb : Below w.heap.size w w') : IRow w' base v zs := h.kept fun g hg => hb.block g (h.lt g hg).2
theorem IRow.other {w w' : World} {base : Nat} {v : Value} {zs : List Int} (h : IRow w base v zs) {b : Nat} (hg : w.grownBy w' (some b)) (hne : v.ownBlock ≠ some b) : IRow w' base v zs :=
  h.kept fun g e => hg.block g (h.lt g e).2 (by rw [← e]; exact hne)
theorem IV_nostr (zs : List Int) : ∀ v ∈ IV zs, ∀ s, v ≠ .string s := by
  intro v hv s
  obtain ⟨x, _, rfl⟩ := List.mem_map.1 hv
  simp
theorem IRow.noStr {w : World} {base : Nat} {v : Value} {zs : List Int} (h : IRow w base v zs) : ∀ g, v.ownBlock = some g → NoStr w g := by
  intro g hg
  rcases h with ⟨rfl, rfl⟩ | ⟨g', cap, rest, rfl, hb, hB, hc, hm⟩
  · simp [Value.ownBlock] at hg
  · simp only [Value.ownBlock, Option.some.injEq] at hg
    subst hg
    exact NoStr.of_blk hB (IV_nostr _)

theorem zeros_int (n : Nat) : (Builtin.zeroCells #[Value.int .i64 0] n).toList = IV (List.replicate n 0) := by
  apply List.ext_getElem
  · simp [Builtin.zeroCells, IV]
  · intro i h1 h2
    have e : i % 1 = 0 := Nat.mod_one i
    simp [Builtin.zeroCells, IV, e]

/-- One number more. -/
theorem IRow.append {w : World} {base : Nat} {v : Value} {zs : List Int} (h : IRow w base v zs) (a : Addr) (c : Nat) (x : Int) (hx : w.cell? a = some (.int .i64 x)) (hk : zs.length ≤ 100000) (hb : base ≤ w.heap.size) :
    ∃ v' w', (Builtin.append_ #[49, 49] 49 #[v, .slice (some a) 1 c]).run Try.prog w = .ok v' w' ∧ IRow w' base v' (zs ++ [x]) ∧ w.grownBy w' v.ownBlock ∧ (v'.ownBlock = v.ownBlock ∨ v'.ownBlock = some w.heap.size) := by
  obtain ⟨i, hi, hz⟩ := Option.map_eq_some_iff.1 info3
  simp only [Prod.mk.injEq] at hz
  obtain ⟨hz1, hz2, hz3⟩ := hz
  have hnews : ∀ j u, [Value.int .i64 x][j]? = some u → w.cell? (a.add j) = some u := by
    intro j u hu
    cases j with
    | zero => simp at hu; subst hu; simpa [Addr.add] using hx
    | succ j => simp at hu
  have hl : [Value.int .i64 x].length = 1 * i.size := by rw [hz2]; rfl
  rcases h with ⟨rfl, rfl⟩ | ⟨g, cap, rest, rfl, hbg, hB, hc, hm⟩
  · have hr := run_append_nil (P := Try.prog) w 49 49 3 i _ Try.underlying49 hi hz1 a 1 c [.int .i64 x] hl hnews (by omega) (by omega) (by rw [hz3]; omega)
    have hge := grownCap_ge w 1 0 3
    refine ⟨_, _, hr, .inr ⟨w.heap.size, _, List.replicate (grownCap w 1 0 3 - 1) 0, rfl, hb, ?_, by simp; omega, grownCap_le_maxLen w 1 0 3 (by unfold maxLen; omega)⟩, ⟨rfl, rfl, rfl, by simp, fun k hk _ => Below.heap_alloc w.drew _ k hk⟩, .inr rfl⟩
    have hn := Blk.new w.drew 3 ([Value.int .i64 x].toArray ++ Builtin.zeroCells #[Value.int .i64 0] (grownCap w 1 0 3 - 1))
    rw [Array.toList_append, zeros_int] at hn
    rw [List.nil_append, IV_append]
    exact hn
  · by_cases hroom : zs.length + 1 ≤ cap
    · match rest, hc with
      | [], hc => simp at hc; omega
      | r :: rs, hc =>
        have hr := run_append_room (P := Try.prog) w 49 49 3 i Try.underlying49 hi g zs.length cap (IV (zs ++ r :: rs)).toArray hB a 1 c [.int .i64 x] hl hnews (by simp [Value.oneCell']) hroom (by rw [hz2]; simp [IV])
        refine ⟨_, _, hr, .inr ⟨g, cap, rs, by simp, hbg, ?_, by simp at hc ⊢; omega, hm⟩, ⟨rfl, rfl, rfl, by simp, fun k _ hk => setRow_other w g k _ (fun e => hk (by simp [Value.ownBlock, e]))⟩, .inl rfl⟩
        have hs := setRow_heap w g (IV (zs ++ r :: rs)).toArray ((IV (zs ++ r :: rs)).toArray.toList.take (zs.length * i.size) ++ [Value.int .i64 x] ++ (IV (zs ++ r :: rs)).toArray.toList.drop (zs.length * i.size + [Value.int .i64 x].length)).toArray 3 _ hB
        have e : (IV (zs ++ r :: rs)).toArray.toList.take (zs.length * i.size) ++ [Value.int .i64 x] ++ (IV (zs ++ r :: rs)).toArray.toList.drop (zs.length * i.size + [Value.int .i64 x].length) = IV (zs ++ [x] ++ rs) := by
          rw [hz2]
          simp [IV, List.drop_append]
        rw [e] at hs ⊢
        exact hs
    · have hrest : rest = [] := List.eq_nil_of_length_eq_zero (by omega)
      subst hrest
      rw [List.append_nil] at hB
      have holds : ∀ j u, (IV zs)[j]? = some u → w.cell? ((⟨g, 0, none⟩ : Addr).add j) = some u := fun j u hu => by
        obtain ⟨hj, rfl⟩ := List.getElem?_eq_some_iff.1 hu
        rw [add_none, Nat.zero_add]; exact hB.cell hj
      have hr := run_append_grow (P := Try.prog) w 49 49 3 i _ Try.underlying49 hi hz1 ⟨g, 0, none⟩ zs.length cap (IV zs) (by rw [IV_length, hz2]; omega) holds a 1 c [.int .i64 x] hl hnews (by omega) (by omega) (growslice_fits (by omega) (by rw [hz3]; omega))
      have hge := grownCap_ge w (zs.length + 1) cap 3
      refine ⟨_, _, hr, .inr ⟨w.heap.size, grownCap w (zs.length + 1) cap 3, List.replicate (grownCap w (zs.length + 1) cap 3 - (zs.length + 1)) 0, by simp, hb, ?_, by simp; omega, grownCap_le_maxLen w _ _ 3 (by unfold maxLen; omega)⟩, ⟨rfl, rfl, rfl, by simp, fun k hk _ => Below.heap_alloc w.drew _ k hk⟩, .inr rfl⟩
      have hn := Blk.new w.drew 3 ((IV zs).toArray ++ [Value.int .i64 x].toArray ++ Builtin.zeroCells #[Value.int .i64 0] (grownCap w (zs.length + 1) cap 3 - (zs.length + 1)))
      rw [Array.toList_append, Array.toList_append, zeros_int] at hn
      rw [IV_append, IV_append]
      exact hn

end Go.Proofs.Ytaafkkmcpedeaaa.Dsk
