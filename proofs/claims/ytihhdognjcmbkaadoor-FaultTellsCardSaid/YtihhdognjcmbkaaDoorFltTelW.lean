/- The walk of FaultTells. -/
import Derived.Test.YtihhdognjcmbkaaDoorFltLaw
import Derived.BigQuiet
import Derived.OwnWalk
namespace Go.Proofs.YtihhdognjcmbkaaDoor.Flt
open Go.RowKit

/-- A world of the class G, as one thing. -/
structure Wd (G : World → Prop) where
  W : World
  ok : G W
theorem wp_region_class {P : Program} {id : Nat} {Q : Exit → Act → World → Prop} {a : Act} {w : World} {l : List Oper} (G : World → Prop) (hG : G { w with drawn := w.drawn + 1 })
    (hm : P.follows .mixedOrders = true) (hB : Region.lexB .any l.toArray = true)
    (h : Nonempty (Wd G) → wpQuiet P l.toArray (fun w' => ∃ x : Wd G, w' = x.W) (fun a' => ∀ w', (∃ x : Wd G, w' = x.W) → Q .normal a' w') l a) : (Code.region id l.toArray true).wp P Q a w :=
  wp_region_quiet (C := fun w' => ∃ x : Wd G, w' = x.W) hm hB ⟨⟨_, hG⟩, rfl⟩ (by simpa using h ⟨⟨_, hG⟩⟩)
theorem wd_call {P : Program} {f : FuncId} {args : Array Value} {G : World → Prop} {x : Wd G} {v : Value} (hk : ∀ W W', G W → Below W.heap.size W W' → G W')
    (h : Calls P f args x.W fun r w' => r = .returned v ∧ Below x.W.heap.size x.W w') : Calls P f args x.W fun r w'' => r = .returned v ∧ ∃ y : Wd G, w'' = y.W :=
  h.mono fun _ _ ⟨he, hb⟩ => ⟨he, ⟨_, hk _ _ x.ok hb⟩, rfl⟩
/-- What FaultTells holds while it tells. -/
structure Tl (w : World) (g : Nat) (e : Int) (v : Value) (a : Option Addr) (n c : Nat) (zs : List Int) (W : World) : Prop where
  bl : Bl w W
  er : Er W e v (pl e zs)
  df : DF W a n zs
  var : Blk W g 30 [.int .i64 e, .slice a n c]
theorem Tl.keep {w : World} {g : Nat} {e : Int} {v : Value} {a : Option Addr} {n c : Nat} {zs : List Int} : ∀ W W', Tl w g e v a n c zs W → Below W.heap.size W W' → Tl w g e v a n c zs W' :=
  fun _ _ h hb => ⟨h.bl.call hb, h.er.call hb, h.df.call hb, h.var.call hb⟩
theorem Er.what {w : World} {e : Int} {v : Value} {l : List Int} (h : Er w e v l) : (v = .nilIface ∧ l = []) ∨ ∃ b : Nat, v = FV b ∧ l ≠ [] := by
  cases h with
  | none => exact .inl ⟨rfl, rfl⟩
  | some b l h => exact .inr ⟨b, rfl, by rintro rfl; cases h⟩

set_option maxRecDepth 20000 in
set_option maxHeartbeats 2000000 in
theorem walk_tells (e : Int) (e0 : -32768 ≤ e) (e1 : e ≤ 32767) (a : Option Addr) (n c : Nat) (zs : List Int) (w : World) (hT : ETab w) (hz : R32 w a n zs) :
    Calls Tryd.prog 3 #[.int .i16 e, .slice a n c] w fun r w' => r = .returned (.bool true) ∧ Below w.heap.size w w' := by
  have HT := Lib.hid hT
  have HZ := Lib.hid hz
  have HA := Lib.hid (fun W hW => awake_any W hW)
  by_cases hn : (40 : Int) < n
  · clear hT hz
    go_enter Tryd.func3, Tryd.ntmps3
    go_wp2_with (go_at_call 7; with_reducible refine (HA.out _ HT.out).mono ?_; rintro r w1 ⟨rfl, hb⟩; have B1 := Lib.hid hb; clear hb)
    go_ret
    exact ⟨rfl, B1.out⟩
  · have hn4 : n ≤ 40 := by omega
    have hsm : Sm (pl e zs) := by
      unfold pl
      split
      · exact ⟨by simp, by simp⟩
      · exact ⟨by rw [List.length_reverse]; exact (hz.sm hn4).1, fun x hx => (hz.sm hn4).2 x (List.mem_reverse.1 hx)⟩
    have HSM := Lib.hid hsm
    have HM := Lib.hid (fun W hW => made_any e e0 e1 a n c zs W hW hn4)
    have HS := Lib.hid (fun W hW => same_df e e0 e1 a n c zs W hW hn4)
    clear hT hz hsm hn4
    go_enter Tryd.func3, Tryd.ntmps3
    go_wp2_with (first
      | (go_at_call 8; with_reducible refine (HM.out _ HZ.out).mono ?_; rintro r w1 ⟨v1, rfl, hE, hb⟩; have E1 := Lib.hid hE; have B1 := Lib.hid ((Bl.refl w).call hb); clear hE hb)
      | (go_at_call 9; with_reducible refine (HS.out _ (HZ.out.call B1.out.below)).mono ?_; rintro r w2 ⟨a', c', rfl, hD, hb⟩; have D2 := Lib.hid hD; have E2 := Lib.hid (E1.out.call hb); have B2 := Lib.hid (B1.out.call hb); clear hD hb))
    have hG : Tl w w2.heap.size e v1 a' n c' zs (w2.alloc (.cells #[.int .i64 e, .slice a' n c'] 30)).drew :=
      Tl.keep _ _ ⟨B2.out.call (new1 _ _), E2.out.call (new1 _ _), D2.out.call (new1 _ _), Blk.new w2 30 #[.int .i64 e, .slice a' n c']⟩ (Below.refl _ _).drew
    refine wp_region_class (Tl w w2.heap.size e v1 a' n c' zs) hG (by kernel_rfl) (by kernel_rfl) ?_
    intro hne
    clear hG
    have K7 := fun z : Wd (Tl w w2.heap.size e v1 a' n c' zs) => HA.out z.W (z.ok.bl.tab HT.out)
    have K10 := fun z : Wd (Tl w w2.heap.size e v1 a' n c' zs) => code_any e v1 (pl e zs) z.W (z.ok.bl.tab HT.out) z.ok.er
    have K11 := fun z : Wd (Tl w w2.heap.size e v1 a' n c' zs) => rcode_any e a' n c' zs z.W z.ok.df
    have K12 := fun z : Wd (Tl w w2.heap.size e v1 a' n c' zs) => place_any e v1 (pl e zs) z.W (z.ok.bl.tab HT.out) z.ok.er HSM.out
    have K13 := fun z : Wd (Tl w w2.heap.size e v1 a' n c' zs) => rplace_any e a' n c' zs z.W z.ok.df
    have K14 := fun z : Wd (Tl w w2.heap.size e v1 a' n c' zs) => depth_any e v1 (pl e zs) z.W (z.ok.bl.tab HT.out) z.ok.er HSM.out
    have K15 := fun z : Wd (Tl w w2.heap.size e v1 a' n c' zs) => rdepth_any e a' n c' zs z.W z.ok.df
    have x0 := fun z : Wd (Tl w w2.heap.size e v1 a' n c' zs) => z.ok.var.cell (i := 0) (by simp)
    have x1 := fun z : Wd (Tl w w2.heap.size e v1 a' n c' zs) => z.ok.var.cell (i := 1) (by simp)
    dsimp only [List.getElem_cons_zero, List.getElem_cons_succ] at x0 x1
    rw [rcode_pl] at K10
    rw [rplace_pl] at K12
    rw [rdepth_pl] at K14
    have hw : (v1 = .nilIface ∧ (rdepth e zs == 0) = true) ∨ ∃ b : Nat, v1 = FV b ∧ (rdepth e zs == 0) = false := by
      rcases E2.out.what with ⟨h1, h2⟩ | ⟨b, h1, h2⟩
      · exact .inl ⟨h1, by rw [← rdepth_pl, h2]; rfl⟩
      · exact .inr ⟨b, h1, by
          rw [← rdepth_pl, beq_eq_false_iff_ne]
          intro h0
          exact h2 (List.eq_nil_of_length_eq_zero (by omega))⟩
    generalize rcode e zs = d1 at *
    generalize rplace e zs = d2 at *
    generalize rdepth e zs = d3 at *
    have t1 : (d1 == d1) = true := by simp
    have t2 : (d2 == d2) = true := by simp
    have t3 : (d3 == d3) = true := by simp
    rcases hw with ⟨rfl, hd⟩ | ⟨b, rfl, hd⟩
    · go_big_quiet_step (fail)
      go_big_quiet_step (exact wd_call Tl.keep (K10 _))
      go_big_quiet_step (fail)
      go_big_quiet_step (exact wd_call Tl.keep (K11 _))
      go_big_quiet_step (fail)
      go_big_quiet_step (fail)
      go_big_quiet_step (fail)
      go_big_quiet_step (exact wd_call Tl.keep (K12 _))
      go_big_quiet_step (fail)
      go_big_quiet_step (exact wd_call Tl.keep (K13 _))
      go_big_quiet_step (fail)
      go_big_quiet_step (fail)
      go_big_quiet_step (fail)
      go_big_quiet_step (fail)
      go_big_quiet_step (exact wd_call Tl.keep (K14 _))
      go_big_quiet_step (fail)
      go_big_quiet_step (exact wd_call Tl.keep (K15 _))
      go_big_quiet_step (fail)
      go_big_quiet_step (fail)
      go_big_quiet_step (fail)
      go_big_quiet_step (fail)
      go_big_quiet_step (fail)
      go_big_quiet_step (fail)
      go_big_quiet_step (exact wd_call Tl.keep (K15 _))
      go_big_quiet_step (fail)
      go_big_quiet_step (fail)
      go_big_quiet_step (fail)
      go_big_quiet_step (fail)
      go_big_quiet_step (exact wd_call Tl.keep (K7 _))
      go_big_quiet_step (fail)
      go_big_quiet_step (fail)
      refine wpQuiet_nil ?_
      rintro _ ⟨z, rfl⟩
      have HB := Lib.hid z.ok.bl.below
      go_wp2_with fail
      go_ret
      exact ⟨rfl, HB.out⟩
    · unfold FV at K7 K10 K11 K12 K13 K14 K15 x0 x1 hne ⊢
      go_big_quiet_step (fail)
      go_big_quiet_step (exact wd_call Tl.keep (K10 _))
      go_big_quiet_step (fail)
      go_big_quiet_step (exact wd_call Tl.keep (K11 _))
      go_big_quiet_step (fail)
      go_big_quiet_step (fail)
      go_big_quiet_step (fail)
      go_big_quiet_step (exact wd_call Tl.keep (K12 _))
      go_big_quiet_step (fail)
      go_big_quiet_step (exact wd_call Tl.keep (K13 _))
      go_big_quiet_step (fail)
      go_big_quiet_step (fail)
      go_big_quiet_step (fail)
      go_big_quiet_step (fail)
      go_big_quiet_step (exact wd_call Tl.keep (K14 _))
      go_big_quiet_step (fail)
      go_big_quiet_step (exact wd_call Tl.keep (K15 _))
      go_big_quiet_step (fail)
      go_big_quiet_step (fail)
      go_big_quiet_step (fail)
      go_big_quiet_step (fail)
      go_big_quiet_step (fail)
      go_big_quiet_step (fail)
      go_big_quiet_step (exact wd_call Tl.keep (K15 _))
      go_big_quiet_step (fail)
      go_big_quiet_step (fail)
      go_big_quiet_step (fail)
      go_big_quiet_step (fail)
      go_big_quiet_step (exact wd_call Tl.keep (K7 _))
      go_big_quiet_step (fail)
      go_big_quiet_step (fail)
      refine wpQuiet_nil ?_
      rintro _ ⟨z, rfl⟩
      have HB := Lib.hid z.ok.bl.below
      go_wp2_with fail
      go_ret
      exact ⟨rfl, HB.out⟩
end Go.Proofs.YtihhdognjcmbkaaDoor.Flt
