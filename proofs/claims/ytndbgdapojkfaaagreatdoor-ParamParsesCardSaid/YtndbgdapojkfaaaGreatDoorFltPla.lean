/- Contracts of outermost, Place and Depth. -/
import Derived.Test.YtndbgdapojkfaaaGreatDoorFltPro
namespace Go.Proofs.YtndbgdapojkfaaaGreatDoor.Flt
open Go.RowKit

/-- Block g is just these cells of element type t, none frozen. -/
def Blk (w : World) (g : Nat) (t : TypeId) (vs : List Value) : Prop := w.heap[g]? = some (.cells vs.toArray t (0, 0))
theorem Blk.cell {w : World} {g : Nat} {t : TypeId} {vs : List Value} (h : Blk w g t vs) {i : Nat} (hi : i < vs.length) : w.cell? ⟨g, i, none⟩ = some vs[i] := by
  rw [cell_of_row w g i _ t _ h]; simp [hi]
theorem Blk.frozen {w : World} {g : Nat} {t : TypeId} {vs : List Value} (h : Blk w g t vs) (i : Nat) : w.frozen? ⟨g, i, none⟩ = false := by unfold Blk at h; simp [World.frozen?, h]
theorem Blk.new (w : World) (t : TypeId) (vs : Array Value) : Blk (w.alloc (.cells vs t)) w.heap.size t vs.toList := by unfold Blk; rw [heap_alloc_new]
theorem Blk.lt {w : World} {g : Nat} {t : TypeId} {vs : List Value} (h : Blk w g t vs) : g < w.heap.size := by
  rcases Nat.lt_or_ge g w.heap.size with h' | h'
  · exact h'
  · unfold Blk at h; rw [Array.getElem?_eq_none h'] at h; cases h
theorem Blk.set_ {w : World} {g : Nat} {t : TypeId} {vs : List Value} (h : Blk w g t vs) (i : Nat) (u : Value) : Blk (w.setCell ⟨g, i, none⟩ u) g t (vs.set i u) := by
  unfold Blk at h ⊢
  simp [World.setCell, Array.getElem?_modify, h]
theorem Blk.call {w w1 : World} {g : Nat} {t : TypeId} {vs : List Value} (h : Blk w g t vs) (hb : Below w.heap.size w w1) : Blk w1 g t vs := by
  have := h.lt
  unfold Blk at h ⊢
  rw [hb.block g this]
  exact h
/-- A world in which a call's own variable of *Fault lies. -/
structure Vr (w wr : World) : Prop where
  bl : Bl w wr
  v : ∃ x, Blk wr w.heap.size 71 [x]
theorem Vr.new (w : World) : Vr w (w.alloc (.cells #[.pointer none] 71)) := ⟨(Bl.refl w).call (new1 _ _), _, Blk.new w 71 #[.pointer none]⟩
/-- Behind errors.As that has found a fault. -/
theorem Vr.found {w wr w1 : World} (h : Vr w wr) (b : Nat) (hb : Below wr.heap.size (wr.setCell ⟨w.heap.size, 0, none⟩ (.pointer (some ⟨b, 0, none⟩))) w1) : Vr w w1 ∧ w1.cell? ⟨w.heap.size, 0, none⟩ = some (.pointer (some ⟨b, 0, none⟩)) := by
  obtain ⟨x, hx⟩ := h.v
  have h1 : Blk (wr.setCell ⟨w.heap.size, 0, none⟩ (.pointer (some ⟨b, 0, none⟩))) w.heap.size 71 [.pointer (some ⟨b, 0, none⟩)] := hx.set_ 0 _
  have hs : (wr.setCell ⟨w.heap.size, 0, none⟩ (.pointer (some ⟨b, 0, none⟩))).heap.size = wr.heap.size := by simp
  have h2 := h1.call (by rw [hs]; exact hb)
  have hle := h.bl.le
  refine ⟨⟨⟨(h.bl.below.setCell (p := ⟨w.heap.size, 0, none⟩) (by simp) _).trans (hb.mono hle), by have := hb.size; rw [hs] at this; omega⟩, _, h2⟩, h2.cell (i := 0) (by simp)⟩
theorem Vr.call {w wr w1 : World} (h : Vr w wr) (hb : Below wr.heap.size wr w1) : Vr w w1 := by
  obtain ⟨x, hx⟩ := h.v
  exact ⟨h.bl.call hb, x, hx.call hb⟩

/-- Places that are numbers of 32 bits, at most forty. -/
def Sm (l : List Int) : Prop := l.length ≤ 40 ∧ ∀ a ∈ l, -2147483648 ≤ a ∧ a ≤ 2147483647
theorem sum_in : ∀ (l : List Int), (∀ a ∈ l, -2147483648 ≤ a ∧ a ≤ 2147483647) → -(2147483648 * (l.length : Int)) ≤ l.sum ∧ l.sum ≤ 2147483648 * (l.length : Int)
  | [], _ => by simp
  | a :: l, h => by
    have := sum_in l (fun x hx => h x (by simp [hx]))
    have := h a (by simp)
    simp only [List.sum_cons, List.length_cons]
    omega
theorem Sm.part {l p q : List Int} (h : Sm l) (e : l = p ++ q) : -85899345920 ≤ p.sum ∧ p.sum ≤ 85899345920 ∧ ∀ a ∈ q, -2147483648 ≤ a ∧ a ≤ 2147483647 := by
  have h1 := sum_in p (fun a ha => h.2 a (by rw [e]; simp [ha]))
  have h2 : p.length ≤ 40 := by have := h.1; rw [e, List.length_append] at this; omega
  exact ⟨by omega, by omega, fun a ha => h.2 a (by rw [e]; simp [ha])⟩

/-- A pointer to a fault, or none. -/
inductive Pt (w : World) (e : Int) : Value → List Int → Prop
  | none : Pt w e (.pointer none) []
  | some (b : Nat) (l : List Int) (h : Ch w e (FV b) l) : Pt w e (.pointer (some ⟨b, 0, none⟩)) l
theorem Pt.call {w w1 : World} {e : Int} {v : Value} {l : List Int} (h : Pt w e v l) (hb : Below w.heap.size w w1) : Pt w1 e v l := by
  cases h with
  | none => exact .none
  | some b l h => exact .some b l (h.call hb)
/-- How far a pointer may still lead. -/
def prank : Value → Nat
  | .pointer (some a) => a.block + 1
  | _ => 0

/-- The first fault of an error: none of nil, none of a number. -/
theorem outer_nil (w : World) : Calls Tryz.prog 35 #[.nilIface] w fun r w' => r = .returned (.pointer none) ∧ Below w.heap.size w w' := by
  have H := Lib.hid (fun t W => eAs_nil t W)
  go_enter Tryz.func35, Tryz.ntmps35
  go_wp2_with (go_at_call 34; with_reducible refine (H.out _ _).mono ?_; rintro e w0 ⟨rfl, rfl⟩)
  go_ret
  exact ⟨rfl, new1 _ _⟩
theorem outer_num (e : Int) (w : World) (hE : ETab w) : Calls Tryz.prog 35 #[NV e] w fun r w' => r = .returned (.pointer none) ∧ Below w.heap.size w w' := by
  have H := Lib.hid (eAs_none e w.heap.size (.pointer none) (w.alloc (.cells #[.pointer none] 71)) (hE.call (new1 _ _)) (by simp) (by simp))
  have HB := Lib.hid (fun w1 (hb : Below (w.alloc (.cells #[.pointer none] 71)).heap.size (w.alloc (.cells #[.pointer none] 71)) w1) => ((Vr.new w).bl.call hb).below)
  clear hE
  unfold NV at H ⊢
  go_enter Tryz.func35, Tryz.ntmps35
  go_wp2_with (go_at_call 34; with_reducible refine (H.out).mono ?_; rintro e w1 ⟨rfl, hb⟩; have HL := Lib.hid (HB.out _ hb); clear hb)
  go_ret
  exact ⟨rfl, HL.out⟩
theorem outer_fault (b : Nat) (w : World) (hE : ETab w) : Calls Tryz.prog 35 #[FV b] w fun r w' => r = .returned (.pointer (some ⟨b, 0, none⟩)) ∧ Below w.heap.size w w' := by
  have H := Lib.hid (eAs_fault b w.heap.size (.pointer none) (w.alloc (.cells #[.pointer none] 71)) (hE.call (new1 _ _)) (by simp) (by simp))
  have HB := Lib.hid (fun w1 hb => (Vr.new w).found (w1 := w1) b hb)
  clear hE
  unfold FV at H ⊢
  go_enter Tryz.func35, Tryz.ntmps35
  go_wp2_with (go_at_call 34; with_reducible refine (H.out).mono ?_; rintro e w1 ⟨rfl, hb⟩; obtain ⟨hv, d0⟩ := HB.out _ hb; have HL := Lib.hid hv.bl.below; clear hb hv)
  go_ret
  exact ⟨rfl, HL.out⟩
theorem outer_ch (e : Int) (v : Value) (l : List Int) (w : World) (hE : ETab w) (h : Ch w e v l) : Calls Tryz.prog 35 #[v] w fun r w' => ∃ p, r = .returned p ∧ Pt w' e p l ∧ prank p = rank v ∧ Below w.heap.size w w' := by
  cases h with
  | num =>
    refine (outer_num e w hE).mono ?_
    rintro r w' ⟨rfl, hb⟩
    exact ⟨_, rfl, .none, rfl, hb⟩
  | cons b u a l h0 h1 h hr =>
    refine (outer_fault b w hE).mono ?_
    rintro r w' ⟨rfl, hb⟩
    exact ⟨_, rfl, .some b _ ((Ch.cons b u a l h0 h1 h hr).call hb), rfl, hb⟩
theorem outer_er (e : Int) (v : Value) (l : List Int) (w : World) (hE : ETab w) (h : Er w e v l) : Calls Tryz.prog 35 #[v] w fun r w' => ∃ p, r = .returned p ∧ Pt w' e p l ∧ Below w.heap.size w w' := by
  cases h with
  | none =>
    refine (outer_nil w).mono ?_
    rintro r w' ⟨rfl, hb⟩
    exact ⟨_, rfl, .none, hb⟩
  | some b l h =>
    refine (outer_ch e (FV b) l w hE h).mono ?_
    rintro r w' ⟨p, rfl, hp, _, hb⟩
    exact ⟨p, rfl, hp, hb⟩

theorem place_any (e : Int) (v : Value) (l : List Int) (w : World) (hE : ETab w) (h : Er w e v l) (hs : Sm l) : Calls Tryz.prog 13 #[v] w fun r w' => r = .returned (.int .i64 l.sum) ∧ Below w.heap.size w w' := by
  have HE := Lib.hid hE
  have HS := Lib.hid hs
  have HF := Lib.hid (outer_er e v l w hE h)
  have HN := Lib.hid (fun v l W a h => outer_ch e v l W a h)
  clear hE h hs
  go_enter Tryz.func13, Tryz.ntmps13
  go_wp2_with (go_at_call 35; with_reducible refine (HF.out).mono ?_; rintro e w1 ⟨p1, rfl, hp, hb⟩; have P1 := Lib.hid hp; have B1 := Lib.hid ((Bl.refl w).call hb); clear hp hb)
  go_loopw [3, 4] (fun s f wr => ∃ (p q : List Int), Hid (l = p ++ q) ∧ Hid (Pt wr e f q) ∧ s = .int .i64 p.sum ∧ Hid (Bl w wr)) (fun _ f _ => prank f)
  case atStart => exact ⟨[], l, Lib.hid rfl, P1, rfl, B1⟩
  case round =>
    obtain ⟨p, q, hpq, hc, rfl, hv⟩ := hrel
    obtain ⟨p0, p1', hq⟩ := HS.out.part hpq.out
    have HT := Lib.hid (hv.out.tab HE.out)
    rcases hc.out with _ | ⟨b, _, h⟩
    · have hp : p = l := by rw [hpq.out]; simp
      have HP := Lib.hid hp
      clear hq hp
      go_wp2_with fail
      go_ret
      exact ⟨by rw [HP.out]; rfl, hv.out.below⟩
    · unfold FV at h
      rcases h with _ | ⟨_, u, a, q, h0, h1, h, hr⟩
      obtain ⟨a0, a1⟩ := hq a (by simp)
      have HP := Lib.hid (show l = (p ++ [a]) ++ q by rw [hpq.out]; simp)
      obtain ⟨r0, r1, -⟩ := HS.out.part HP.out
      have HH := Lib.hid h
      have HR := Lib.hid hr
      have e1 : (p ++ [a]).sum = p.sum + a := by simp
      rw [e1] at r0 r1
      have HQ := Lib.hid e1
      clear hq h hr e1
      go_wp2_with (go_at_call 35; with_reducible refine (HN.out _ _ _ HT.out HH.out).mono ?_; rintro e w1 ⟨p2, rfl, hp, hk, hb⟩; have P2 := Lib.hid hp; have K2 := Lib.hid hk; have B2 := Lib.hid (hv.out.call hb); clear hp hk hb)
      go_roundw
      case rel => exact ⟨p ++ [a], q, HP, P2, by rw [HQ.out], B2⟩
      case measure => rw [K2.out]; exact HR.out
end Go.Proofs.YtndbgdapojkfaaaGreatDoor.Flt
