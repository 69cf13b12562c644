/- Contract of the laws' own: the program's line out of the document's. -/
import Derived.Test.YtplobfnljlnkkaaDoorFldBack
set_option linter.unusedVariables false
namespace Go.Proofs.YtplobfnljlnkkaaDoor.Fld
open Go.RowKit Go.Deep Go.Proofs.YtplobfnljlnkkaaDoor.Byt Go.Proofs.YtplobfnljlnkkaaDoor.Utf Go.Proofs.YtplobfnljlnkkaaDoor.Tre

theorem finfoP : (Tryd.prog.info? 61).map (fun i => (i.zero, i.size, i.bytes)) = some (some (.agg #[.int .i64 0, .int .i64 0]), 2, 16) := by kernel_rfl
/-- A row of pieces of the call's own: a piece more. -/
theorem fpieces_new {w wr : World} {ps : List (Int × Int)} {v : Value} {F : List Nat} (ho : Ow w wr (pD 61 ps) v F) (hb : Bl w wr) (a b : Int) (hn : ps.length ≤ 100000) :
    ∃ v' w' F', (Builtin.append_ #[44, 44] 44 #[v, .slice (some ⟨wr.heap.size, 0, none⟩) 1 1]).run Tryd.prog (wr.alloc (.cells #[.int .i64 a, .int .i64 b] 61)) = .ok v' w' ∧
      Ow w w' (pD 61 (ps ++ [(a, b)])) v' F' ∧ Bl w w' ∧ (wr.alloc (.cells #[.int .i64 a, .int .i64 b] 61)).grownBy w' v.ownBlock ∧ (∀ g ∈ F', g ∈ F ∨ wr.heap.size < g) ∧ (∀ g, v.ownBlock = some g → g ∈ F) := by
  obtain ⟨v', w', F', r1, r2, r3, r4, r5, r6⟩ := push_own (P := Tryd.prog) (w0 := w) (w := wr) (t := 44) (ty := 44) Tryd.underlying44 finfoP rfl (by omega)
    ho.own ho.nd (ones wr w.heap.size [.int .i64 a, .int .i64 b]) rfl (fun u hu => by
      rcases List.mem_cons.1 hu with rfl | hu
      · rfl
      · rcases List.mem_cons.1 hu with rfl | hu
        · rfl
        · cases hu) (by simp) (fun g hg hx => by simp at hx) (by omega) (by omega) hb.below
  refine ⟨v', w', F', r1, ⟨?_, r3⟩, ⟨r5, r5.size⟩, r4, fun g hg => ?_, fun g hg => ?_⟩
  · unfold pD
    rw [List.flatMap_append, List.length_append, List.length_singleton]
    exact r2
  · rcases r6 g hg with h | h | h
    · exact .inl h
    · simp at h
    · exact .inr h
  · obtain ⟨vs, Fs, rfl, _, _⟩ := ho.own.cells
    exact List.mem_append_left _ (mem_blk.2 hg)


/-- Where own stands behind j pieces: the argument's box, the result's, and the line's. -/
structure Wn (w wq : World) (g : Nat) (arg : List Value) (t : ByteArray) (ps : List (Int × Int)) (pv : Value) (G : List Nat) : Prop where
  bl : Bl w wq
  a0 : Blk wq g 40 arg
  r0 : Blk wq (g + 1) 46 [.string ⟨#[]⟩, .slice none 0 0]
  box : Blk wq (g + 2) 46 [.string t, pv]
  hg : w.heap.size ≤ g
  pcs : Ow w wq (pD 61 ps) pv G
  d : g ∉ G ∧ g + 1 ∉ G ∧ g + 2 ∉ G
theorem Wn.step {w wq : World} {g : Nat} {arg : List Value} {t : ByteArray} {ps : List (Int × Int)} {pv : Value} {G : List Nat} (h : Wn w wq g arg t ps pv G) (a b : Int) (hn : ps.length ≤ 100000) :
    ∃ v' w' G', (Builtin.append_ #[44, 44] 44 #[pv, .slice (some ⟨wq.heap.size, 0, none⟩) 1 1]).run Tryd.prog (wq.alloc (.cells #[.int .i64 a, .int .i64 b] 61)).drew = .ok v' w' ∧
      Blk w' (g + 2) 46 [.string t, pv] ∧ Wn w (w'.setCell ⟨g + 2, 1, none⟩ v') g arg t (ps ++ [(a, b)]) v' G' ∧ ∃ a' c', v' = .slice a' (ps.length + 1) c' := by
  obtain ⟨v', w', G', r1, r2, r3, r4, r5, r6⟩ := fpieces_new (wr := wq.drew) (ow_drew h.pcs) h.bl.drew a b hn
  have hg : ∀ x, x < wq.heap.size → x ∉ G → w'.heap[x]? = wq.heap[x]? := fun x hx hy => by
    rw [r4.block x (by simp; omega) (fun hz => hy (r6 x hz.symm))]
    exact Below.heap_alloc wq.drew _ x hx
  have l2 := h.box.lt
  have hbx := h.box.kept (hg _ l2 h.d.2.2)
  have hG' : ∀ x ∈ G', x ∈ G ∨ wq.heap.size < x := r5
  have hd' : ∀ x, x < wq.heap.size → x ∉ G → x ∉ G' := fun x h1 h2 h3 => by
    rcases hG' _ h3 with h | h
    · exact h2 h
    · omega
  obtain ⟨a', c', rfl, _⟩ := pieces_at r2.own.rd
  refine ⟨_, w', G', r1, hbx, ⟨⟨r3.below.setCell (p := ⟨g + 2, 1, none⟩) (by show _ ≤ g + 2; have := h.hg; omega) _, by simpa using r3.le⟩, (h.a0.kept (hg _ h.a0.lt h.d.1)).kept (Below.heap_setCell _ _ _ _ (by show g ≠ g + 2; omega)), (h.r0.kept (hg _ h.r0.lt h.d.2.1)).kept (Below.heap_setCell _ _ _ _ (by show g + 1 ≠ g + 2; omega)), hbx.set_ 1 _, h.hg, ⟨r2.own.set_far (p := ⟨g + 2, 1, none⟩) (hd' _ l2 h.d.2.2) _, r2.nd⟩, hd' _ h.a0.lt h.d.1, hd' _ h.r0.lt h.d.2.1, hd' _ l2 h.d.2.2⟩, a', c', by rw [List.length_append, List.length_singleton]⟩
theorem Wn.new (w : World) (t : ByteArray) (v : Value) : Wn w (((w.alloc (.cells #[.string t, v] 40)).alloc (.cells #[.string ⟨#[]⟩, .slice none 0 0] 46)).alloc (.cells #[.string t, .slice none 0 0] 46)) w.heap.size [.string t, v] t [] (.slice none 0 0) [] := by
  have s1 : (w.alloc (.cells #[.string t, v] 40)).heap.size = w.heap.size + 1 := by simp
  have s2 : ((w.alloc (.cells #[.string t, v] 40)).alloc (.cells #[.string ⟨#[]⟩, .slice none 0 0] 46)).heap.size = w.heap.size + 2 := by simp
  have b1 := Blk.new (w.alloc (.cells #[.string t, v] 40)) 46 [.string ⟨#[]⟩, .slice none 0 0]
  have b2 := Blk.new ((w.alloc (.cells #[.string t, v] 40)).alloc (.cells #[.string ⟨#[]⟩, .slice none 0 0] 46)) 46 [.string t, .slice none 0 0]
  rw [s1] at b1
  rw [s2] at b2
  exact ⟨(((Bl.refl w).alloc _).alloc _).alloc _, ((Blk.new w 40 [.string t, v]).alloc _).alloc _, b1.alloc _, b2, Nat.le_refl _, ⟨Own.nil _ _ _ _, by simp⟩, by simp, by simp, by simp⟩
set_option maxRecDepth 100000 in
set_option maxHeartbeats 1000000 in
theorem own_any (l : PL) (hp : l.ps.length ≤ 10000) (a : Option Addr) (c : Nat) (w : World) (ha : Rd w (pD 60 l.ps) (.slice a l.ps.length c)) :
    Calls Tryd.prog 20 #[.agg #[.string ⟨l.t.toArray⟩, .slice a l.ps.length c]] w fun r w' => ∃ a' c', r = .returned (.agg #[.string ⟨l.t.toArray⟩, .slice a' l.ps.length c']) ∧ Rd w' (pD 61 l.ps) (.slice a' l.ps.length c') ∧ Below w.heap.size w w' := by
  have HA := Lib.hid ha
  clear ha
  generalize ByteArray.mk l.t.toArray = tx at *
  generalize l.ps = ps at *
  have HS := Lib.hid (Wn.new w tx (.slice a ps.length c))
  go_enter Tryd.func20, Tryd.ntmps20
  go_wp2_with fail
  generalize ((w.alloc (.cells #[.string tx, .slice a ps.length c] 40)).alloc (.cells #[.string ⟨#[]⟩, .slice none 0 0] 46)).alloc (.cells #[.string tx, .slice none 0 0] 46) = w0 at *
  go_loopw [4] (fun i wq => ∃ (j : Nat) (pv : Value) (G : List Nat), j ≤ ps.length ∧ i = .int .i64 j ∧ Hid (Wn w wq w.heap.size [.string tx, .slice a ps.length c] tx (ps.take j) pv G)) (fun i _ => ps.length - (intOf i).toNat)
  case atStart => exact ⟨0, _, _, Nat.zero_le _, rfl, HS⟩
  case round =>
    obtain ⟨j, pv, G, hj, rfl, hB⟩ := hrel
    have a1 := hB.out.a0.cell (i := 1) rfl
    have x0 := hB.out.box.cell (i := 0) rfl
    have x1 := hB.out.box.cell (i := 1) rfl
    have xf := hB.out.box.frozen
    have r0 := hB.out.r0.cell (i := 0) rfl
    have r1 := hB.out.r0.cell (i := 1) rfl
    have rf := hB.out.r0.frozen
    have z2 := hB.out.box.lt
    obtain ⟨av, cv, rfl, -⟩ := pieces_at hB.out.pcs.own.rd
    by_cases hlt : j < ps.length
    · have hj' : (j : Int) < ps.length := by omega
      obtain ⟨bp, op, rfl, p0, p1⟩ := piece_at (HA.out.call hB.out.bl.below) hlt
      obtain ⟨v', w', G', ra, rb, rs, ap, cp, rfl⟩ := hB.out.step ps[j].1 ps[j].2 (by rw [List.length_take]; omega)
      have hpj := take_get hlt
      have : (ps[j].1, ps[j].2) = ps[j] := rfl
      rw [this, hpj] at rs
      have y0 := rb.cell (i := 0) rfl
      have y1 := rb.cell (i := 1) rfl
      have yf := rb.frozen
      have RA := Lib.hid ra
      have RS := Lib.hid rs
      have z0 : w.heap.size < wr.heap.size := by omega
      have z1 : w.heap.size + 1 < wr.heap.size := by omega
      clear ra rs rb hpj this
      generalize ps[j].1 = px at *
      generalize ps[j].2 = py at *
      generalize (ps.take j).length = nj at *
      go_wp2_with fail
      go_region_law (refine step_append_run rfl (.tmp 16) (.tmp 22) 44 44 rfl _ _ rfl rfl _ w' RA.out ?_)
      all_goals
        go_wp2_with fail
        go_roundw
        case rel => exact ⟨j + 1, _, G', by omega, by go_num, RS⟩
        case measure => simp [intOf]; omega
    · obtain rfl : j = ps.length := by omega
      have hpc := hB.out.pcs
      have hd := hB.out.d
      have hbl := hB.out.bl
      rw [List.take_of_length_le (Nat.le_refl _)] at hpc
      have hr := hpc.own.set_far (p := ⟨w.heap.size + 1, 0, none⟩) hd.2.1 (.string tx)
      have hr2 := (hr.set_far (p := ⟨w.heap.size + 1, 1, none⟩) hd.2.1 (.slice av (ps.take ps.length).length cv)).rd
      rw [show (ps.take ps.length).length = ps.length by simp] at *
      have HR := Lib.hid hr2
      have HB := Lib.hid ((hbl.below.setCell (p := ⟨w.heap.size + 1, 0, none⟩) (by simp) (.string tx)).setCell (p := ⟨w.heap.size + 1, 1, none⟩) (by simp) (.slice av ps.length cv))
      clear hr hr2 hpc hd hbl hB
      go_wp2_with fail
      exact bodyPost_ret (v := .agg #[.string tx, .slice av ps.length cv]) (by simp [results, Tryd.results20, go_sem, *]) rfl ⟨av, cv, rfl, HR.out, HB.out⟩
end Go.Proofs.YtplobfnljlnkkaaDoor.Fld
