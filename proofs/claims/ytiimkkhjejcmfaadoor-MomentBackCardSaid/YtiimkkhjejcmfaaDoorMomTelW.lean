/- The walk of MomentTells. -/
import Derived.Test.YtiimkkhjejcmfaaDoorMomLaw
import Derived.Deep.DeepCutAuto
import Derived.RegionTactic
import Derived.BigRegion
namespace Go.Proofs.YtiimkkhjejcmfaaDoor.Mom
open Go.RowKit Civ

/-- A world of the class G, as one thing. -/
structure Wd (G : World → Prop) where
  W : World
  ok : G W
theorem wp_region_class {P : Program} {id : Nat} {Q : Exit → Act → World → Prop} {a : Act} {w : World} {l : List Oper} (G : World → Prop) (hG : G { w with drawn := w.drawn + 1 })
    (hm : P.follows .mixedOrders = true) (hB : Region.lexB .any l.toArray = true)
    (h : Nonempty (Wd G) → wpQuiet P l.toArray (fun w' => ∃ x : Wd G, w' = x.W) (fun a' => ∀ w', (∃ x : Wd G, w' = x.W) → Q .normal a' w') l a) : (Code.region id l.toArray true).wp P Q a w :=
  wp_region_quiet (C := fun w' => ∃ x : Wd G, w' = x.W) hm hB ⟨⟨_, hG⟩, rfl⟩ (by simpa using h ⟨⟨_, hG⟩⟩)
theorem wd_call {P : Program} {f : FuncId} {args : Array Value} {G : World → Prop} {x : Wd G} {v : Value} (hk : ∀ W W', G W → Below W.heap.size W W' → G W')
    (h : Calls P f args x.W fun r w' => r = .returned v ∧ Below x.W.heap.size x.W w') : Calls P f args x.W fun r w'' => r = .returned v ∧ ∃ y : Wd G, w'' = y.W :=
  h.mono fun _ _ ⟨he, hb⟩ => ⟨he, ⟨_, hk _ _ x.ok hb⟩, rfl⟩

/-- A block that holds two values. -/
structure Ca (w : World) (g : Nat) (k s k' s' : Int) : Prop where
  c0 : w.cell? ⟨g, 0, none⟩ = some (.int .u8 k)
  c1 : w.cell? ⟨g, 1, none⟩ = some (.int .i64 s)
  c2 : w.cell? ⟨g, 2, none⟩ = some (.int .u8 k')
  c3 : w.cell? ⟨g, 3, none⟩ = some (.int .i64 s')
  lt : g < w.heap.size
theorem Ca.call {w w1 : World} {g : Nat} {k s k' s' : Int} (h : Ca w g k s k' s') (hb : Below w.heap.size w w1) : Ca w1 g k s k' s' :=
  ⟨by rw [hb.cell (p := ⟨g, 0, none⟩) h.lt]; exact h.c0, by rw [hb.cell (p := ⟨g, 1, none⟩) h.lt]; exact h.c1, by rw [hb.cell (p := ⟨g, 2, none⟩) h.lt]; exact h.c2, by rw [hb.cell (p := ⟨g, 3, none⟩) h.lt]; exact h.c3, by have := hb.size; have := h.lt; omega⟩
theorem Ca.new (w : World) (k s k' s' : Int) (t : TypeId) : Ca (w.alloc (.cells #[.int .u8 k, .int .i64 s, .int .u8 k', .int .i64 s'] t)) w.heap.size k s k' s' := by
  have h0 : (w.alloc (.cells #[.int .u8 k, .int .i64 s, .int .u8 k', .int .i64 s'] t)).heap[w.heap.size]? = some (.cells #[.int .u8 k, .int .i64 s, .int .u8 k', .int .i64 s'] t) := heap_alloc_new w _
  refine ⟨?_, ?_, ?_, ?_, by simp⟩
  · rw [cell_of_row _ w.heap.size 0 _ t _ h0]; rfl
  · rw [cell_of_row _ w.heap.size 1 _ t _ h0]; rfl
  · rw [cell_of_row _ w.heap.size 2 _ t _ h0]; rfl
  · rw [cell_of_row _ w.heap.size 3 _ t _ h0]; rfl
/-- The three variables. -/
structure Th (w : World) (x y : Nat) (k s k' s' : Int) (W : World) : Prop where
  bl : Bl w W
  l : Ca W w.heap.size k s k' s'
  a : Cel W x k s
  b : Cel W y k' s'
theorem Th.call {w : World} {x y : Nat} {k s k' s' : Int} {W W' : World} (h : Th w x y k s k' s' W) (hb : Below W.heap.size W W') : Th w x y k s k' s' W' :=
  ⟨h.bl.call hb, h.l.call hb, h.a.call hb, h.b.call hb⟩
theorem Th.alloc {w : World} {x y : Nat} {k s k' s' : Int} {W : World} (h : Th w x y k s k' s' W) (o : Obj) : Th w x y k s k' s' (W.alloc o) := h.call (new1 W o)

theorem th_ab (w : World) (k s k' s' : Int) : Th w (w.heap.size + 1) (w.heap.size + 1 + 1) k s k' s' (((w.alloc (.cells #[.int .u8 k, .int .i64 s, .int .u8 k', .int .i64 s'] 32)).alloc (.cells #[.int .u8 k, .int .i64 s] 24)).alloc (.cells #[.int .u8 k', .int .i64 s'] 24)).drew := by
  have hd : ∀ W : World, Below W.heap.size W W.drew := fun W => (Below.refl _ _).drew
  have hA := Cel.new (w.alloc (.cells #[.int .u8 k, .int .i64 s, .int .u8 k', .int .i64 s'] 32)) k s 24
  have hB := Cel.new ((w.alloc (.cells #[.int .u8 k, .int .i64 s, .int .u8 k', .int .i64 s'] 32)).alloc (.cells #[.int .u8 k, .int .i64 s] 24)) k' s' 24
  simp only [World.size_alloc] at hA hB
  exact ⟨((((Bl.refl w).alloc _).alloc _).alloc _).call (hd _), (((Ca.new w k s k' s' 32).call (new1 _ _)).call (new1 _ _)).call (hd _), (hA.alloc _).call (hd _), hB.call (hd _)⟩
theorem th_ba (w : World) (k s k' s' : Int) : Th w (w.heap.size + 1 + 1) (w.heap.size + 1) k s k' s' (((w.alloc (.cells #[.int .u8 k, .int .i64 s, .int .u8 k', .int .i64 s'] 32)).alloc (.cells #[.int .u8 k', .int .i64 s'] 24)).alloc (.cells #[.int .u8 k, .int .i64 s] 24)).drew := by
  have hd : ∀ W : World, Below W.heap.size W W.drew := fun W => (Below.refl _ _).drew
  have hA := Cel.new (w.alloc (.cells #[.int .u8 k, .int .i64 s, .int .u8 k', .int .i64 s'] 32)) k' s' 24
  have hB := Cel.new ((w.alloc (.cells #[.int .u8 k, .int .i64 s, .int .u8 k', .int .i64 s'] 32)).alloc (.cells #[.int .u8 k', .int .i64 s'] 24)) k s 24
  simp only [World.size_alloc] at hA hB
  exact ⟨((((Bl.refl w).alloc _).alloc _).alloc _).call (hd _), (((Ca.new w k s k' s' 32).call (new1 _ _)).call (new1 _ _)).call (hd _), hB.call (hd _), (hA.alloc _).call (hd _)⟩
/-- The five variables. -/
structure Fv (w : World) (x y p q : Nat) (k s k' s' c d : Int) (W : World) : Prop where
  th : Th w x y k s k' s' W
  p : Cel W p c d
  q : Cel W q c d
theorem Fv.call {w : World} {x y p q : Nat} {k s k' s' c d : Int} : ∀ W W', Fv w x y p q k s k' s' c d W → Below W.heap.size W W' → Fv w x y p q k s k' s' c d W' :=
  fun _ _ h hb => ⟨h.th.call hb, h.p.call hb, h.q.call hb⟩

set_option maxRecDepth 20000 in
set_option maxHeartbeats 2000000 in
theorem walk_tells (k s k' s' : Int) (w : World) (hT : CTab w) :
    Calls Tryd.prog 4 #[.agg #[.int .u8 k, .int .i64 s, .int .u8 k', .int .i64 s']] w fun r w' => r = .returned (.bool true) ∧ Below w.heap.size w w' := by
  have HT := Lib.hid hT
  clear hT
  have HA := Lib.hid (fun W hW => awake_any W hW)
  have H1 := Lib.hid (fun W hW => print_any k s W hW)
  have H2 := Lib.hid (fun W => rprint_any k s W)
  have H3 := Lib.hid (fun W => split_any k s W)
  have H4 := Lib.hid (fun W => rsplit_any k s W)
  have H5 := Lib.hid (fun W => at_any k s' W)
  have H6 := Lib.hid (fun W => rat_any k s' W)
  have B1 := Lib.hid (fun W => before_any k s k' s' W)
  have B2 := Lib.hid (fun W => rbefore_any k s k' s' W)
  have C1 := Lib.hid (fun W => check_any k s W)
  have C2 := Lib.hid (fun W => rcheck_any k s W)
  generalize ByteArray.mk (prL k s).toArray = t at *
  generalize chkA k s = e at *
  generalize spD k s = dd at *
  generalize spS k s = ds at *
  generalize atK k s' = ck at *
  generalize atS k s' = cs at *
  generalize atE k s' = ce at *
  generalize befA k s k' s' = b at *
  have t1 : (t.toList == t.toList) = true := by simp
  have t2 : (e == e) = true := by simp
  have t3 : (dd == dd) = true := by simp
  have t4 : (ds == ds) = true := by simp
  have t5 : (ck == ck) = true := by simp
  have t6 : (cs == cs) = true := by simp
  have t7 : (ce == ce) = true := by simp
  have t8 : (b == b) = true := by simp
  go_enter Tryd.func4, Tryd.ntmps4
  go_upto_region 1 with fail
  go_cut [3, 4] (fun s3 s4 wx => ∃ x y : Nat, s3 = .pointer (some ⟨x, 0, none⟩) ∧ s4 = .pointer (some ⟨y, 0, none⟩) ∧ Th w x y k s k' s' wx)
  case first =>
    go_region
    all_goals go_wp2_with fail
    all_goals go_meet
    · exact ⟨_, _, rfl, rfl, th_ab w k s k' s'⟩
    · exact ⟨_, _, rfl, rfl, th_ba w k s k' s'⟩
  case rest =>
    obtain ⟨x, y, rfl, rfl, h3⟩ := hcut
    have HX := Lib.hid h3
    clear h3
    obtain ⟨-, ⟨l0, l1, l2, l3, lz⟩, ⟨v0, v1, vz⟩, ⟨u0, u1, uz⟩⟩ := HX.out
    go_wp2_with (first
      | (go_at_call 10; with_reducible refine (H1.out _ (HX.out.bl.tab HT.out)).mono ?_; rintro e w1 ⟨rfl, hb⟩; replace HX := Lib.hid (HX.out.call hb); clear hb l0 l1 l2 l3 lz v0 v1 vz u0 u1 uz; obtain ⟨-, ⟨l0, l1, l2, l3, lz⟩, ⟨v0, v1, vz⟩, ⟨u0, u1, uz⟩⟩ := HX.out)
      | (go_at_call 11; with_reducible refine (H2.out _).mono ?_; rintro e w2 ⟨rfl, hb⟩; replace HX := Lib.hid (HX.out.call hb); clear hb l0 l1 l2 l3 lz v0 v1 vz u0 u1 uz; obtain ⟨-, ⟨l0, l1, l2, l3, lz⟩, ⟨v0, v1, vz⟩, ⟨u0, u1, uz⟩⟩ := HX.out)
      | (go_at_call 12; with_reducible refine (H3.out _).mono ?_; rintro e w3 ⟨rfl, hb⟩; replace HX := Lib.hid (HX.out.call hb); clear hb l0 l1 l2 l3 lz v0 v1 vz u0 u1 uz; obtain ⟨-, ⟨l0, l1, l2, l3, lz⟩, ⟨v0, v1, vz⟩, ⟨u0, u1, uz⟩⟩ := HX.out)
      | (go_at_call 13; with_reducible refine (H4.out _).mono ?_; rintro e w4 ⟨rfl, hb⟩; replace HX := Lib.hid (HX.out.call hb); clear hb l0 l1 l2 l3 lz v0 v1 vz u0 u1 uz; obtain ⟨-, ⟨l0, l1, l2, l3, lz⟩, ⟨v0, v1, vz⟩, ⟨u0, u1, uz⟩⟩ := HX.out)
      | (go_at_call 14; with_reducible refine (H5.out _).mono ?_; rintro e w5 ⟨rfl, hb⟩; replace HX := Lib.hid (HX.out.call hb); clear hb l0 l1 l2 l3 lz v0 v1 vz u0 u1 uz; obtain ⟨-, ⟨l0, l1, l2, l3, lz⟩, ⟨v0, v1, vz⟩, ⟨u0, u1, uz⟩⟩ := HX.out)
      | (go_at_call 15; with_reducible refine (H6.out _).mono ?_; rintro e w6 ⟨rfl, hb⟩; have HF : Hid (Fv w x y w5.heap.size w6.heap.size k s k' s' ck cs (w6.alloc (.cells #[.int .u8 ck, .int .i64 cs] 28))) := Lib.hid ⟨((HX.out.alloc _).call hb).alloc _, ((Cel.new w5 ck cs 24).call hb).alloc _, Cel.new w6 ck cs 28⟩; clear hb l0 l1 l2 l3 lz v0 v1 vz u0 u1 uz HX H1 H2 H3 H4 H5 H6))
    refine wp_region_class (Fv w x y w5.heap.size w6.heap.size k s k' s' ck cs) (Fv.call _ _ HF.out (below_n (Below.refl _ _) 1)) (by kernel_rfl) (by kernel_rfl) ?_
    intro hne
    have HZ := fun z : Wd (Fv w x y w5.heap.size w6.heap.size k s k' s' ck cs) => HA.out z.W (z.ok.th.bl.tab HT.out)
    clear HF
    have l0 := fun z : Wd (Fv w x y w5.heap.size w6.heap.size k s k' s' ck cs) => z.ok.th.l.c0
    have l1 := fun z : Wd (Fv w x y w5.heap.size w6.heap.size k s k' s' ck cs) => z.ok.th.l.c1
    have l2 := fun z : Wd (Fv w x y w5.heap.size w6.heap.size k s k' s' ck cs) => z.ok.th.l.c2
    have l3 := fun z : Wd (Fv w x y w5.heap.size w6.heap.size k s k' s' ck cs) => z.ok.th.l.c3
    have v0 := fun z : Wd (Fv w x y w5.heap.size w6.heap.size k s k' s' ck cs) => z.ok.th.a.c0
    have v1 := fun z : Wd (Fv w x y w5.heap.size w6.heap.size k s k' s' ck cs) => z.ok.th.a.c1
    have u0 := fun z : Wd (Fv w x y w5.heap.size w6.heap.size k s k' s' ck cs) => z.ok.th.b.c0
    have u1 := fun z : Wd (Fv w x y w5.heap.size w6.heap.size k s k' s' ck cs) => z.ok.th.b.c1
    have p0 := fun z : Wd (Fv w x y w5.heap.size w6.heap.size k s k' s' ck cs) => z.ok.p.c0
    have p1 := fun z : Wd (Fv w x y w5.heap.size w6.heap.size k s k' s' ck cs) => z.ok.p.c1
    have q0 := fun z : Wd (Fv w x y w5.heap.size w6.heap.size k s k' s' ck cs) => z.ok.q.c0
    have q1 := fun z : Wd (Fv w x y w5.heap.size w6.heap.size k s k' s' ck cs) => z.ok.q.c1
    go_big_quiet_step (fail)
    go_big_quiet_step (fail)
    go_big_quiet_step (fail)
    go_big_quiet_step (fail)
    go_big_quiet_step (fail)
    go_big_quiet_step (fail)
    go_big_quiet_step (fail)
    go_big_quiet_step (fail)
    go_big_quiet_step (fail)
    go_big_quiet_step (fail)
    go_big_quiet_step (fail)
    go_big_quiet_step (fail)
    go_big_quiet_step (fail)
    go_big_quiet_step (fail)
    go_big_quiet_step (fail)
    go_big_quiet_step (fail)
    go_big_quiet_step (fail)
    go_big_quiet_step (fail)
    go_big_quiet_step (fail)
    go_big_quiet_step (fail)
    go_big_quiet_step (fail)
    go_big_quiet_step (fail)
    go_big_quiet_step (fail)
    go_big_quiet_step (fail)
    go_big_quiet_step (fail)
    go_big_quiet_step (fail)
    go_big_quiet_step (fail)
    go_big_quiet_step (fail)
    go_big_quiet_step (fail)
    go_big_quiet_step (fail)
    go_big_quiet_step (exact wd_call Fv.call (C1.out _))
    go_big_quiet_step (fail)
    go_big_quiet_step (fail)
    go_big_quiet_step (exact wd_call Fv.call (C2.out _))
    go_big_quiet_step (fail)
    go_big_quiet_step (fail)
    go_big_quiet_step (fail)
    go_big_quiet_step (fail)
    go_big_quiet_step (fail)
    go_big_quiet_step (exact wd_call Fv.call (B1.out _))
    go_big_quiet_step (fail)
    go_big_quiet_step (fail)
    go_big_quiet_step (fail)
    go_big_quiet_step (fail)
    go_big_quiet_step (exact wd_call Fv.call (B2.out _))
    go_big_quiet_step (fail)
    go_big_quiet_step (fail)
    go_big_quiet_step (fail)
    go_big_quiet_step (exact wd_call Fv.call (HZ _))
    go_big_quiet_step (fail)
    go_big_quiet_step (fail)
    refine wpQuiet_nil ?_
    rintro _ ⟨z, rfl⟩
    have HX2 := Lib.hid z.ok.th.bl.below
    clear HZ l0 l1 l2 l3 v0 v1 u0 u1 p0 p1 q0 q1
    go_wp2_with fail
    go_ret
    exact ⟨rfl, HX2.out⟩
end Go.Proofs.YtiimkkhjejcmfaaDoor.Mom
