/- Contract of the laws' Back: the document's lines out of the program's. -/
import Derived.Test.YtplobfnljlnkkaaDoorFldRefS
set_option linter.unusedVariables false
namespace Go.Proofs.YtplobfnljlnkkaaDoor.Fld
open Go.RowKit Go.Deep Go.Proofs.YtplobfnljlnkkaaDoor.Byt Go.Proofs.YtplobfnljlnkkaaDoor.Utf Go.Proofs.YtplobfnljlnkkaaDoor.Tre

/-- A row of lines of the call's own: a line more, whose pieces are a row of the call's own. -/
theorem lines_push {w wr : World} {acc : List PL} {v pv : Value} {F G : List Nat} {l : PL} (ho : Ow w wr (lsD 40 60 acc) v F) (hp : Ow w wr (pD 60 l.ps) pv G) (hd : ∀ g ∈ F, g ∉ G) (hb : Bl w wr) (hn : acc.length ≤ 100000) :
    ∃ v' w' F', (Builtin.append_ #[28, 28] 28 #[v, .slice (some ⟨wr.heap.size, 0, none⟩) 1 1]).run Tryd.prog (wr.alloc (.cells #[.string ⟨l.t.toArray⟩, pv] 40)) = .ok v' w' ∧
      Ow w w' (lsD 40 60 (acc ++ [l])) v' F' ∧ Bl w w' := by
  obtain ⟨a, c, rfl, _⟩ := pieces_at hp.own.rd
  obtain ⟨v', w', F', r1, r2, r3, r4, r5, r6⟩ := push_own (P := Tryd.prog) (w0 := w) (w := wr) (t := 28) (ty := 28) Tryd.underlying28 rinfoL rfl (by omega)
    ho.own ho.nd ((Cells.nil _ w.heap.size).cons hp.own |>.cons (.one (.string ⟨l.t.toArray⟩))) rfl (fun u hu => by
      rcases List.mem_cons.1 hu with rfl | hu
      · rfl
      · rcases List.mem_cons.1 hu with rfl | hu
        · rfl
        · cases hu) (by simpa using hp.nd) (fun g hg hx => hd g hg (by simpa using hx)) (by omega) (by omega) hb.below
  refine ⟨v', w', F', r1, ⟨?_, r3⟩, r5, r5.size⟩
  unfold lsD
  rw [List.flatMap_append, List.length_append, List.length_singleton]
  exact r2
/-- Where Back stands behind k lines, and j pieces of the next one: out, and the box of the line under way. -/
structure Bk (w wq : World) (ls : List PL) (k : Nat) (v : Value) (F : List Nat) (gb : Nat) (t : ByteArray) (ps : List (Int × Int)) (pv : Value) (G : List Nat) : Prop where
  bl : Bl w wq
  out : Ow w wq (lsD 40 60 (ls.take k)) v F
  box : Blk wq gb 40 [.string t, pv]
  hb : w.heap.size ≤ gb
  pcs : Ow w wq (pD 60 ps) pv G
  d1 : ∀ g ∈ F, g ∉ G
  d2 : gb ∉ F
  d3 : gb ∉ G
theorem Bk.new {w wr : World} {ls : List PL} {k : Nat} {v : Value} {F : List Nat} (hb : Bl w wr) (ho : Ow w wr (lsD 40 60 (ls.take k)) v F) (t : ByteArray) : Bk w (wr.alloc (.cells #[.string t, .slice none 0 0] 40)) ls k v F wr.heap.size t [] (.slice none 0 0) [] :=
  ⟨hb.alloc _, ⟨own_alloc ho.own _, ho.nd⟩, Blk.new wr _ [.string t, .slice none 0 0], hb.le, ⟨Own.nil _ _ _ _, by simp⟩, fun g _ => by simp, fun hx => by have := (ho.own.lt _ hx).2; omega, by simp⟩
theorem ow_drew {w0 w : World} {d : Dat} {v : Value} {F : List Nat} (h : Ow w0 w d v F) : Ow w0 w.drew d v F := h.drew
/-- One piece more. -/
theorem Bk.step {w wq : World} {ls : List PL} {k : Nat} {v : Value} {F : List Nat} {gb : Nat} {t : ByteArray} {ps : List (Int × Int)} {pv : Value} {G : List Nat} (h : Bk w wq ls k v F gb t ps pv G) (a b : Int) (hn : ps.length ≤ 100000) :
    ∃ v' w' G', (Builtin.append_ #[38, 38] 38 #[pv, .slice (some ⟨wq.heap.size, 0, none⟩) 1 1]).run Tryd.prog (wq.alloc (.cells #[.int .i64 a, .int .i64 b] 60)).drew = .ok v' w' ∧
      Blk w' gb 40 [.string t, pv] ∧ Bk w (w'.setCell ⟨gb, 1, none⟩ v') ls k v F gb t (ps ++ [(a, b)]) v' G' ∧ ∃ a' c', v' = .slice a' (ps.length + 1) c' := by
  obtain ⟨v', w', G', r1, r2, r3, r4, r5, r6⟩ := pieces_new (wr := wq.drew) (ow_drew h.pcs) h.bl.drew a b hn
  have hg : ∀ g, g < wq.heap.size → g ∉ G → w'.heap[g]? = wq.heap[g]? := fun g hg hx => by
    rw [r4.block g (by simp; omega) (fun hy => hx (r6 g hy.symm))]
    exact Below.heap_alloc wq.drew _ g hg
  have hbx := h.box.kept (hg gb h.box.lt h.d3)
  have hG' : ∀ g ∈ G', g ∈ G ∨ wq.heap.size < g := r5
  have d3' : gb ∉ G' := fun hx => by
    rcases hG' _ hx with h1 | h1
    · exact h.d3 h1
    · have := h.box.lt; omega
  obtain ⟨a', c', rfl, _⟩ := pieces_at r2.own.rd
  refine ⟨_, w', G', r1, hbx, ⟨⟨r3.below.setCell (p := ⟨gb, 1, none⟩) h.hb _, by simpa using r3.le⟩, ⟨(h.out.own.kept fun g hx => hg g (h.out.own.lt g hx).2 (h.d1 g hx)).set_far (p := ⟨gb, 1, none⟩) h.d2 _, h.out.nd⟩, hbx.set_ 1 _, h.hb, ⟨r2.own.set_far (p := ⟨gb, 1, none⟩) d3' _, r2.nd⟩, fun g hx hy => ?_, h.d2, d3'⟩, a', c', by rw [List.length_append, List.length_singleton]⟩
  rcases hG' _ hy with h1 | h1
  · exact h.d1 g hx h1
  · have := (h.out.own.lt g hx).2; omega
theorem take_get {α : Type} {l : List α} {k : Nat} (h : k < l.length) : l.take k ++ [l[k]] = l.take (k + 1) := (List.take_succ_eq_append_getElem h).symm
set_option maxRecDepth 100000 in
set_option maxHeartbeats 1000000 in
theorem back_any (ls : List PL) (hf : Few ls) (a : Option Addr) (c : Nat) (w : World) (ha : Rd w (lsD 46 61 ls) (.slice a ls.length c)) :
    Calls Tryd.prog 12 #[.slice a ls.length c] w fun r w' => ∃ a' c', r = .returned (.slice a' ls.length c') ∧ Rd w' (lsD 40 60 ls) (.slice a' ls.length c') ∧ Below w.heap.size w w' := by
  have HA := Lib.hid ha
  have HF := Lib.hid hf
  have hn := hf.1
  clear ha hf
  go_enter Tryd.func12, Tryd.ntmps12
  go_wp2_with fail
  go_loopw [3, 4] (fun v i wr => ∃ (k : Nat) (F : List Nat), k ≤ ls.length ∧ i = .int .i64 k ∧ Hid (Ow w wr (lsD 40 60 (ls.take k)) v F) ∧ Hid (Bl w wr)) (fun _ i _ => ls.length - (intOf i).toNat)
  case atStart => exact ⟨0, [], Nat.zero_le _, rfl, Lib.hid ⟨Own.nil _ _ _ _, by simp⟩, Lib.hid (Bl.refl w)⟩
  case round =>
    obtain ⟨k, F, hk, rfl, ho, hbl⟩ := hrel
    by_cases h : k < ls.length
    · have h' : (k : Int) < ls.length := by omega
      obtain ⟨ba, oa, rfl, a0w, pa, ca, a1w, pra⟩ := line_at HA.out h
      have hm := HF.out.2 ls[k] (List.getElem_mem h)
      have hl := take_get h
      have HS := Lib.hid (Bk.new hbl.out ho.out ⟨ls[k].t.toArray⟩)
      have PA := Lib.hid pra
      have HL := Lib.hid (fun (x : PL) (hx : x = ls[k]) => (show ls.take k ++ [x] = ls.take (k + 1) by rw [hx, hl]))
      have A1 := Lib.hid a1w
      have l1 := Byt.cell_lt a1w
      have a0 := (hbl.out.below.cell (p := ⟨ba, oa + k * 2, none⟩) l1).trans a0w
      generalize hq : ls[k] = l at *
      generalize ht : ByteArray.mk l.t.toArray = tx at *
      clear pra hl a0w a1w
      go_wp2_with fail
      clear a0
      go_loopw [6] (fun q wq => ∃ (j : Nat) (pv : Value) (G : List Nat), j ≤ l.ps.length ∧ q = .int .i64 j ∧ Hid (Bk w wq ls k u3 F wr.heap.size tx (l.ps.take j) pv G)) (fun q _ => l.ps.length - (intOf q).toNat)
      case atStart => exact ⟨0, _, _, Nat.zero_le _, rfl, HS⟩
      case round =>
        obtain ⟨j, pv, G, hj, rfl, hB⟩ := hrel
        have a1 := (hB.out.bl.below.cell (p := ⟨ba, oa + k * 2 + 1, none⟩) l1).trans A1.out
        have x0 := hB.out.box.cell (i := 0) rfl
        have x1 := hB.out.box.cell (i := 1) rfl
        have xf := hB.out.box.frozen
        have hzz := hB.out.box.lt
        by_cases hlt : j < l.ps.length
        · have hj' : (j : Int) < l.ps.length := by omega
          obtain ⟨bp, op, rfl, p0, p1⟩ := piece_at (PA.out.call hB.out.bl.below) hlt
          obtain ⟨v', w', G', ra, rb, rs, ap, cp, rfl⟩ := hB.out.step l.ps[j].1 l.ps[j].2 (by rw [List.length_take]; omega)
          have hpj := take_get hlt
          have : (l.ps[j].1, l.ps[j].2) = l.ps[j] := rfl
          rw [this, hpj] at rs
          have y0 := rb.cell (i := 0) rfl
          have y1 := rb.cell (i := 1) rfl
          have yf := rb.frozen
          have RA := Lib.hid ra
          have RS := Lib.hid rs
          obtain ⟨av, cv, rfl, -⟩ := pieces_at hB.out.pcs.own.rd
          clear ra rs rb hpj this
          generalize l.ps[j].1 = px at *
          generalize l.ps[j].2 = py at *
          generalize (l.ps.take j).length = nj at *
          go_wp2_with fail
          go_region_law (refine step_append_run rfl (.tmp 30) (.tmp 39) 38 38 rfl _ _ rfl rfl _ w' RA.out ?_)
          all_goals
            go_wp2_with fail
            go_roundw
            case rel => exact ⟨j + 1, _, G', by omega, by go_num, RS⟩
            case measure => simp [intOf]; omega
        · obtain rfl : j = l.ps.length := by omega
          have hpc := hB.out.pcs
          rw [List.take_of_length_le (Nat.le_refl _)] at hpc
          obtain ⟨av, cv, rfl, -⟩ := pieces_at hpc.own.rd
          obtain ⟨v', w', F', ra, ro, rb⟩ := lines_push (l := l) hB.out.out hpc hB.out.d1 hB.out.bl (by rw [List.length_take]; omega)
          rw [HL.out l rfl] at ro
          rw [ht] at ra
          have RA := Lib.hid ra
          have RO := Lib.hid ro
          have RB := Lib.hid rb
          clear ra ro rb hpc
          go_wp2_with (at_builtin; refine wpList_append_run rfl (.tmp 42) (.tmp 44) 28 28 rfl _ _ rfl rfl _ w' RA.out ?_)
          go_roundw
          case rel => exact ⟨k + 1, F', by omega, by go_num, RO, RB⟩
          case measure => simp [intOf]; omega
    · obtain rfl : k = ls.length := by omega
      have hr := ho.out.own.rd
      rw [List.take_of_length_le (Nat.le_refl _)] at hr
      obtain ⟨a', c', rfl, _⟩ := lines_at hr
      have HR := Lib.hid hr
      clear hr
      go_wp2_with fail
      go_ret
      exact ⟨a', c', rfl, HR.out, hbl.out.below⟩
end Go.Proofs.YtplobfnljlnkkaaDoor.Fld
