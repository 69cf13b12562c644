/- Plain data of which parts are told by value, and what these read as; rows of the call's own from a lower block on. Of whatever program. -/
import Derived.Test.YtndbgdapojkfaaaGreatDoorTre
import Derived.Test.YtndbgdapojkfaaaGreatDoorTxt
set_option linter.unusedVariables false
namespace Go.Proofs.YtndbgdapojkfaaaGreatDoor.Tre
open Go.RowKit Go.Proofs.YtndbgdapojkfaaaGreatDoor.Byt

/-- The first data tells some parts by value alone; the second one tells what they read as. -/
inductive Rf (w : World) : Dat → Dat → Prop
  | one (v : Value) (d : Dat) (h : Rd w d v) : Rf w (.one v) d
  | sl (e : TypeId) (k n : Nat) (cs ds : List Dat) (hl : cs.length = ds.length) (h : ∀ (i : Nat) (c d : Dat), cs[i]? = some c → ds[i]? = some d → Rf w c d) : Rf w (.sl e k n cs) (.sl e k n ds)
theorem Rf.call {w w' : World} {c d : Dat} (h : Rf w c d) (hb : Below w.heap.size w w') : Rf w' c d := by
  induction h with
  | one v d h => exact .one v d (h.call hb)
  | sl e k n cs ds hl _ ih => exact .sl e k n cs ds hl ih
theorem Rf.rd {w : World} {c d : Dat} (h : Rf w c d) : ∀ {v : Value}, Rd w c v → Rd w d v := by
  induction h with
  | one u d h => intro v hv; rw [hv.val]; exact h
  | sl e k n cs ds hl _ ih =>
    intro v hv
    cases hv with
    | nil e k a c =>
      have : ds = [] := List.eq_nil_of_length_eq_zero (by rw [← hl]; rfl)
      subst this
      exact .nil e k a c
    | sl e k n b off c cs vs hn hcap hb hk hl2 hc h2 =>
      exact .sl e k n b off c ds vs hn hcap hb hk (hl2.trans hl) hc (fun i d u hd hu => by
        obtain ⟨c', hc'⟩ := both hl hd
        exact ih i c' d hc' hd (h2 i c' u hc' hu))
/-- The same, cell by cell. -/
structure Rfs (w : World) (cs ds : List Dat) : Prop where
  l : cs.length = ds.length
  h : ∀ (i : Nat) (c d : Dat), cs[i]? = some c → ds[i]? = some d → Rf w c d
theorem Rfs.sl {w : World} {cs ds : List Dat} (h : Rfs w cs ds) (e : TypeId) (k n : Nat) : Rf w (.sl e k n cs) (.sl e k n ds) := .sl e k n cs ds h.l h.h
theorem Rfs.nil (w : World) : Rfs w [] [] := ⟨rfl, fun i c d h => by simp at h⟩
theorem Rfs.cons {w : World} {c d : Dat} {cs ds : List Dat} (h : Rf w c d) (hs : Rfs w cs ds) : Rfs w (c :: cs) (d :: ds) := ⟨by simp [hs.l], fun i c' d' h1 h2 => by
  cases i with
  | zero => simp at h1 h2; subst h1 h2; exact h
  | succ i => exact hs.h i c' d' (by simpa using h1) (by simpa using h2)⟩
theorem Rfs.append {w : World} {cs ds es fs : List Dat} (h : Rfs w cs ds) (h' : Rfs w es fs) : Rfs w (cs ++ es) (ds ++ fs) := ⟨by simp [h.l, h'.l], fun i c d h1 h2 => by
  rw [List.getElem?_append] at h1 h2
  rw [h.l] at h1
  by_cases hi : i < ds.length
  · rw [if_pos hi] at h1 h2; exact h.h i c d h1 h2
  · rw [if_neg hi] at h1 h2; exact h'.h _ c d h1 h2⟩
theorem Rf.self {w : World} (v : Value) : Rf w (.one v) (.one v) := .one v _ (.one v)
theorem Rfs.of_rd {w : World} {us : List Value} {ds : List Dat} (hl : us.length = ds.length) (h : ∀ (i : Nat) (d : Dat) (u : Value), ds[i]? = some d → us[i]? = some u → Rd w d u) : Rfs w (us.map .one) ds := ⟨by rw [List.length_map, hl], fun i c d h1 h2 => by
  rw [List.getElem?_map] at h1
  obtain ⟨u, hu, rfl⟩ := Option.map_eq_some_iff.1 h1
  exact .one u d (h i d u h2 hu)⟩
theorem Own.low {w : World} {B B' : Nat} {d : Dat} {v : Value} {F : List Nat} (h : Own w B' d v F) (hB : B ≤ B') : Own w B d v F := by
  induction h with
  | one v => exact .one v
  | sl e k n cs vs v Fs h hl hF _ ih =>
    refine .sl e k n cs vs v Fs ⟨h.1, ?_⟩ hl hF ih
    rcases h.2 with hn | ⟨g, cap, cur, rfl, hb, rest⟩
    · exact .inl hn
    · exact .inr ⟨g, cap, cur, rfl, Nat.le_trans hB hb, rest⟩
/-- A row of the call's own, one element more, whose cells are the call's own. -/
theorem row_push {P : Program} {T sT : TypeId} {z : Value} {k bytes : Nat} (hu : P.underlying sT = some (.slice T)) (hinfo : (P.info? T).map (fun i => (i.zero, i.size, i.bytes)) = some (some z, k, bytes)) (hzs : z.cells.size = k) (hk : 0 < k) (hby : bytes ≤ 1000)
    {w w1 : World} {n : Nat} {cs ds : List Dat} {v : Value} {F : List Nat} {us : List Value} {Gs : List (List Nat)} (ho : Txt.Ow w w1 (.sl T k n cs) v F) (hd : Cells w1 w.heap.size ds us Gs) (hus : us.length = k) (h1 : ∀ u ∈ us, u.oneCell' = true)
    (hG : Gs.flatten.Nodup) (hdis : ∀ g ∈ F, g ∉ Gs.flatten) (hb : Bl w w1) (hn : n ≤ 100000) :
    ∃ v' w' F', (Builtin.append_ #[sT, sT] sT #[v, .slice (some ⟨w1.heap.size, 0, none⟩) 1 1]).run P (w1.alloc (.cells us.toArray T)) = .ok v' w' ∧ Txt.Ow w w' (.sl T k (n + 1) (cs ++ ds)) v' F' ∧ Bl w w' ∧ (∀ g ∈ F', g ∈ F ∨ g ∈ Gs.flatten ∨ w1.heap.size < g) := by
  obtain ⟨v', w', F', r1, r2, r3, r4, r5, r6⟩ := push_own (P := P) (w0 := w) (w := w1) (t := sT) (ty := sT) hu hinfo hzs hk ho.own ho.nd hd hus h1 hG hdis (by omega) hby hb.below
  exact ⟨v', w', F', r1, ⟨r2, r3⟩, ⟨r5, r5.size⟩, r6⟩
/-- Values that read as these data, one by one. -/
structure Rds (w : World) (ds : List Dat) (us : List Value) : Prop where
  l : us.length = ds.length
  h : ∀ (i : Nat) (d : Dat) (u : Value), ds[i]? = some d → us[i]? = some u → Rd w d u
theorem Rds.nil (w : World) : Rds w [] [] := ⟨rfl, fun i d u h => by simp at h⟩
theorem Rds.cons {w : World} {d : Dat} {u : Value} {ds : List Dat} {us : List Value} (h : Rd w d u) (hs : Rds w ds us) : Rds w (d :: ds) (u :: us) := ⟨by simp [hs.l], fun i d' u' h1 h2 => by
  cases i with
  | zero => simp at h1 h2; subst h1 h2; exact h
  | succ i => exact hs.h i d' u' (by simpa using h1) (by simpa using h2)⟩
theorem Rds.call {w w' : World} {ds : List Dat} {us : List Value} (h : Rds w ds us) (hb : Below w.heap.size w w') : Rds w' ds us := ⟨h.l, fun i d u h1 h2 => (h.h i d u h1 h2).call hb⟩
/-- A literal slice, in its block. -/
theorem lit_rd {w : World} {x : Nat} {T : TypeId} {k n : Nat} {ds : List Dat} {us : List Value} (hb : Blk w x T us) (hk : ds.length = n * k) (h : Rds w ds us) : Rd w (.sl T k n ds) (.slice (some ⟨x, 0, none⟩) n n) :=
  Rd.of_cells hk (Nat.le_refl _) (fun _ => hb.lt) (fun i d hd => by
    obtain ⟨u, hu⟩ := both h.l hd
    exact ⟨u, by rw [Nat.zero_add]; exact hb.cell hu, h.h i d u hd hu⟩)
end Go.Proofs.YtndbgdapojkfaaaGreatDoor.Tre
