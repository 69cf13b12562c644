import Derived.Test.YtkglolnghihegaaGreatDoorOct
import Derived.ChangeKeysEq

/- Contracts of the small functions of package sheet: isStamp, markOf, marks, number. -/
namespace Go.Proofs.YtkglolnghihegaaGreatDoor.Sht
open Go.RowKit Go.Proofs.YtkglolnghihegaaGreatDoor.Oct

theorem isStamp_yes (n : Int) (w : World) (h1 : 1 ≤ n) (h2 : n ≤ 1099511627776) :
    Calls Tryz.prog 128 #[.int .i64 n] w fun e w' => e = .returned (.bool true) ∧ w = w' := by
  go_enter Tryz.func128, Tryz.ntmps128
  go_wp2
  go_ret
  exact ⟨rfl, rfl⟩

theorem isStamp_no (n : Int) (w : World) (h : n < 1 ∨ 1099511627776 < n) :
    Calls Tryz.prog 128 #[.int .i64 n] w fun e w' => e = .returned (.bool false) ∧ w = w' := by
  rcases h with h | h
  · have h' : ¬ 1 ≤ n := by omega
    go_enter Tryz.func128, Tryz.ntmps128
    go_wp2
    go_ret
    exact ⟨rfl, rfl⟩
  · have h' : ¬ n ≤ 1099511627776 := by omega
    go_enter Tryz.func128, Tryz.ntmps128
    go_wp2
    go_ret
    exact ⟨rfl, rfl⟩

/-- Six bytes as they stand in an array. -/
abbrev M6 (l : List UInt8) : Value := .agg (bv l).toArray




theorem six {l : List UInt8} (h : l.length = 6) : ∃ b0 b1 b2 b3 b4 b5, l = [b0, b1, b2, b3, b4, b5] := by
  match l, h with
  | [b0, b1, b2, b3, b4, b5], _ => exact ⟨b0, b1, b2, b3, b4, b5, rfl⟩

/-- A block of six cells that are known. -/
def Six (w : World) (g : Nat) (l : List UInt8) : Prop := w.heap[g]? = some (.cells (bv l).toArray 171 (0, 0))
theorem Six.lt {w : World} {g : Nat} {l : List UInt8} (h : Six w g l) : g < w.heap.size := by
  unfold Six at h
  by_cases hl : g < w.heap.size
  · exact hl
  · rw [Array.getElem?_eq_none (by omega)] at h; cases h
theorem Six.cell {w : World} {g : Nat} {l : List UInt8} (h : Six w g l) {i : Nat} (hi : i < l.length) : w.cell? ⟨g, i, none⟩ = some (.int .u8 l[i].toNat) := by
  rw [cell_of_row w g i _ 171 _ h]
  simp [bv, hi]
theorem Six.frozen {w : World} {g : Nat} {l : List UInt8} (h : Six w g l) (i : Nat) : w.frozen? ⟨g, i, none⟩ = false := by
  unfold Six at h
  simp [World.frozen?, h]
theorem Six.below {w w' : World} {g B : Nat} {l : List UInt8} (h : Six w g l) (hb : Below B w w') (hg : g < B) : Six w' g l := (hb.block g hg).trans h
theorem Six.of_other {w w' : World} {g B : Nat} {l : List UInt8} (h : Six w g l) (hb : Below B w w') (hg : g < B) : Six w' g l := (hb.block g hg).trans h
theorem Six.new (w : World) (l : List UInt8) : Six (w.alloc (.cells (bv l).toArray 171)) w.heap.size l := heap_alloc_new w _
theorem m6 (b0 b1 b2 b3 b4 b5 : UInt8) : M6 [b0, b1, b2, b3, b4, b5] = .agg #[.int .u8 b0.toNat, .int .u8 b1.toNat, .int .u8 b2.toNat, .int .u8 b3.toNat, .int .u8 b4.toNat, .int .u8 b5.toNat] := rfl

/-- Six bytes that were stored into an array. -/
abbrev stored (w : World) (g : Nat) (b0 b1 b2 b3 b4 b5 : UInt8) : World :=
  (((((w.setCell ⟨g, 0, none⟩ (.int .u8 b0.toNat)).setCell ⟨g, 1, none⟩ (.int .u8 b1.toNat)).setCell ⟨g, 2, none⟩ (.int .u8 b2.toNat)).setCell ⟨g, 3, none⟩ (.int .u8 b3.toNat)).setCell ⟨g, 4, none⟩ (.int .u8 b4.toNat)).setCell ⟨g, 5, none⟩ (.int .u8 b5.toNat)
theorem Six.stored {w : World} {g : Nat} {l : List UInt8} (h : Six w g l) (hl : l.length = 6) (b0 b1 b2 b3 b4 b5 : UInt8) : Six (stored w g b0 b1 b2 b3 b4 b5) g [b0, b1, b2, b3, b4, b5] := by
  obtain ⟨c0, c1, c2, c3, c4, c5, rfl⟩ := six hl
  unfold Six at h ⊢
  simp [World.setCell, Array.getElem?_modify, h, bv]

/-- A copy of a row of six bytes over an array. -/
theorem copy_row6 {W : World} {g b n c : Nat} {cur l : List UInt8} (hg : Six W g cur) (hc : cur.length = 6) (hl : l.length = 6) (hr : Row W b l) (hn : n = 6) :
    ∃ w1, (Builtin.copy_ #[59, 59] 3 #[.slice (some ⟨g, 0, none⟩) 6 6, .slice (some ⟨b, 0, none⟩) n c]).run Tryz.prog W = .ok (.int .i64 6) w1 ∧ Six w1 g l ∧ Below g W w1 := by
  subst hn
  have hrun := run_copy_row (P := Tryz.prog) W 59 59 3 5 g 0 6 6 ⟨b, 0, none⟩ 6 c (bv cur).toArray 171 (bv l) Tryz.underlying59 Tryz.size5 hg (by simp [bv_length, hl]) (fun j v hv => by
    rw [bv_getElem?] at hv
    obtain ⟨x, hx, rfl⟩ := Option.map_eq_some_iff.1 hv
    obtain ⟨hj, rfl⟩ := List.getElem?_eq_some_iff.1 hx
    have e : (⟨b, 0, none⟩ : Addr).add j = ⟨b, j, none⟩ := by by_cases h0 : j = 0 <;> simp [Addr.add, h0]
    rw [e]; exact hr.cell hj) (by simp [bv_length, hl, hc]) (bv_one l)
  have e : (bv cur).drop (0 + (bv l).length) = [] := by rw [List.drop_eq_nil_iff, bv_length, bv_length]; omega
  simp only [List.take_zero, List.nil_append, e, List.append_nil] at hrun
  refine ⟨W.setRow g (bv l).toArray, hrun.trans (by simp [goInt, bv_length, hl]), setRow_heap W g _ _ 171 _ hg, below_setRow (Below.refl _ _) (Nat.le_refl _) _⟩

set_option maxRecDepth 20000 in
set_option maxHeartbeats 400000 in
theorem markOf_any (n : Nat) (w : World) (h2 : n ≤ 1099511627776) :
    Calls Tryz.prog 160 #[.int .i64 n] w fun e w' => e = .returned (M6 (beB 6 n)) ∧ Below w.heap.size w w' := by
  have HP := Lib.hid (fun W => put_ok none 0 0 [] 6 n W ⟨rfl, fun h => absurd h (by omega)⟩ (by omega) (by omega) (by omega) (by omega) (by omega))
  clear h2
  rw [List.nil_append, Nat.zero_add] at HP
  have hl : (beB 6 n).length = 6 := beB_length _ _
  generalize beB 6 n = l at *
  go_enter Tryz.func160, Tryz.ntmps160
  go_wp2_with fail
  refine (HP.out _).mono ?_
  rintro r w1 ⟨rfl, hr, hb⟩
  have hx : Six (w.alloc (.cells #[.int .u8 0, .int .u8 0, .int .u8 0, .int .u8 0, .int .u8 0, .int .u8 0] 171)) w.heap.size [0, 0, 0, 0, 0, 0] := Six.new w [0, 0, 0, 0, 0, 0]
  rw [World.size_alloc] at hr
  obtain ⟨w2, hcp, hs, hb2⟩ := copy_row6 (c := 6) (n := 6) (hx.below hb (by simp)) rfl hl hr rfl
  obtain ⟨b0, b1, b2, b3, b4, b5, rfl⟩ := six hl
  have HB := Lib.hid (((Below.refl _ w).push _).call hb |>.trans hb2)
  have c0 := hs.cell (i := 0) (by simp)
  have c1 := hs.cell (i := 1) (by simp)
  have c2 := hs.cell (i := 2) (by simp)
  have c3 := hs.cell (i := 3) (by simp)
  have c4 := hs.cell (i := 4) (by simp)
  have c5 := hs.cell (i := 5) (by simp)
  have f0 := hs.frozen 0
  have f1 := hs.frozen 1
  have f2 := hs.frozen 2
  have f3 := hs.frozen 3
  have f4 := hs.frozen 4
  have f5 := hs.frozen 5
  simp only [List.getElem_cons_zero, List.getElem_cons_succ] at c0 c1 c2 c3 c4 c5
  clear hr hb hx hs hb2 hl HP
  go_wp2_with fail
  refine bodyPost_ret (v := M6 [b0, b1, b2, b3, b4, b5]) (by simp [results, Tryz.results160, go_sem, bv, *]) rfl ⟨rfl, ?_⟩
  exact HB.out.set6 (Nat.le_refl _) _ _ _ _ _ _

/-- A copy of the first six bytes of a string over an array. -/
theorem copy_str6 {W : World} {g : Nat} {cur : List UInt8} {s : ByteArray} (hg : Six W g cur) (hc : cur.length = 6) (hl : 6 ≤ s.size) :
    ∃ w1, (Builtin.copy_ #[59, 9] 3 #[.slice (some ⟨g, 0, none⟩) 6 6, .string s]).run Tryz.prog W = .ok (.int .i64 6) w1 ∧ Six w1 g (s.data.toList.take 6) ∧ Below g W w1 ∧ ∀ k, k ≠ g → w1.heap[k]? = W.heap[k]? := by
  have hlen : (bv (s.data.toList.take 6)).length = 6 := by rw [bv_length]; simp; omega
  have hst := run_storeCells_at Tryz.prog g 0 171 (bv (s.data.toList.take 6)) 0 (bv cur).toArray W hg (by rw [hlen]; simp [bv_length, hc]) (bv_one _)
  have e : (bv cur).drop (0 + 0 + (bv (s.data.toList.take 6)).length) = [] := by rw [List.drop_eq_nil_iff, hlen, bv_length]; omega
  simp only [List.take_zero, List.nil_append, e, List.append_nil, Nat.add_zero] at hst
  have hmin : Nat.min s.size 6 = 6 := Nat.min_eq_right hl
  have htk : List.take 6 (List.map (fun b : UInt8 => Value.int IntKind.u8 (b.toNat : Int)) s.data.toList) = bv (s.data.toList.take 6) := by rw [bv, List.map_take]
  refine ⟨W.setRow g (bv (s.data.toList.take 6)).toArray, ?_, setRow_heap W g _ _ 171 _ hg, below_setRow (Below.refl _ _) (Nat.le_refl _) _, fun k hk => setRow_other W g k _ hk⟩
  cases hq : Tryz.prog.info? 5 with
  | none => have := Tryz.size5; simp [hq] at this
  | some i =>
    simp [Builtin.copy_, run_underlying Tryz.underlying59, Builtin.lenOf, Builtin.firstCells, sizeOf, typeInfo, hq, hmin]
    rw [htk, hst]
    simp [Result.andThen, goInt]

theorem Six.open {w : World} {g : Nat} {l : List UInt8} (h : Six w g l) (hl : l.length = 6) : ∃ b0 b1 b2 b3 b4 b5, l = [b0, b1, b2, b3, b4, b5] ∧
    (w.cell? ⟨g, 0, none⟩ = some (.int .u8 b0.toNat) ∧ w.cell? ⟨g, 1, none⟩ = some (.int .u8 b1.toNat) ∧ w.cell? ⟨g, 2, none⟩ = some (.int .u8 b2.toNat) ∧
      w.cell? ⟨g, 3, none⟩ = some (.int .u8 b3.toNat) ∧ w.cell? ⟨g, 4, none⟩ = some (.int .u8 b4.toNat) ∧ w.cell? ⟨g, 5, none⟩ = some (.int .u8 b5.toNat)) ∧
    (w.frozen? ⟨g, 0, none⟩ = false ∧ w.frozen? ⟨g, 1, none⟩ = false ∧ w.frozen? ⟨g, 2, none⟩ = false ∧ w.frozen? ⟨g, 3, none⟩ = false ∧ w.frozen? ⟨g, 4, none⟩ = false ∧ w.frozen? ⟨g, 5, none⟩ = false) := by
  obtain ⟨b0, b1, b2, b3, b4, b5, rfl⟩ := six hl
  exact ⟨b0, b1, b2, b3, b4, b5, rfl, ⟨h.cell (i := 0) (by simp), h.cell (i := 1) (by simp), h.cell (i := 2) (by simp), h.cell (i := 3) (by simp), h.cell (i := 4) (by simp), h.cell (i := 5) (by simp)⟩,
    h.frozen 0, h.frozen 1, h.frozen 2, h.frozen 3, h.frozen 4, h.frozen 5⟩

set_option maxRecDepth 20000 in
set_option maxHeartbeats 400000 in
theorem marks_any (s : ByteArray) (w : World) (hs : s.size = 64) :
    Calls Tryz.prog 101 #[.string s] w fun e w' => e = .returned (.tuple #[M6 (s.data.toList.take 6), M6 ((s.data.toList.drop 58).take 6)]) ∧ Below w.heap.size w w' := by
  have x0 : Six (w.alloc (.cells #[.int .u8 0, .int .u8 0, .int .u8 0, .int .u8 0, .int .u8 0, .int .u8 0] 171)) w.heap.size [0, 0, 0, 0, 0, 0] := Six.new w [0, 0, 0, 0, 0, 0]
  have y0 : Six ((w.alloc (.cells #[.int .u8 0, .int .u8 0, .int .u8 0, .int .u8 0, .int .u8 0, .int .u8 0] 171)).alloc (.cells #[.int .u8 0, .int .u8 0, .int .u8 0, .int .u8 0, .int .u8 0, .int .u8 0] 171)) (w.heap.size + 1) [0, 0, 0, 0, 0, 0] := by
    have := Six.new (w.alloc (.cells #[.int .u8 0, .int .u8 0, .int .u8 0, .int .u8 0, .int .u8 0, .int .u8 0] 171)) [0, 0, 0, 0, 0, 0]
    rwa [World.size_alloc] at this
  have b0 : Below w.heap.size w ((w.alloc (.cells #[.int .u8 0, .int .u8 0, .int .u8 0, .int .u8 0, .int .u8 0, .int .u8 0] 171)).alloc (.cells #[.int .u8 0, .int .u8 0, .int .u8 0, .int .u8 0, .int .u8 0, .int .u8 0] 171)) := ((Below.refl _ w).push _).push _
  have x0' := x0.below ((Below.refl _ _).push (.cells #[.int .u8 0, .int .u8 0, .int .u8 0, .int .u8 0, .int .u8 0, .int .u8 0] 171)) (by simp)
  obtain ⟨w1, hcp, x1, b1, o1⟩ := copy_str6 (s := s) x0' rfl (by omega)
  have y1 : Six w1 (w.heap.size + 1) [0, 0, 0, 0, 0, 0] := (o1 _ (by omega)).trans y0
  have B1 := b0.trans b1
  clear x0 y0 x0' b0
  have hz1 : w.heap.size + 1 < w1.heap.size := y1.lt
  have hsz : (s.extract 58 64).size = 6 := by simp; omega
  have hd : (s.extract 58 64).data.toList.take 6 = (s.data.toList.drop 58).take 6 := by simp [List.take_take]
  obtain ⟨w2, hcp2, y2, b2, -⟩ := copy_str6 (W := w1.drew) (g := w.heap.size + 1) (cur := [0, 0, 0, 0, 0, 0]) (s := s.extract 58 64) y1 rfl (by omega)
  have x2 : Six w2 w.heap.size (s.data.toList.take 6) := (b2.block _ (by omega)).trans x1
  have B2 : Below w.heap.size w w2 := B1.drew.trans (b2.mono (by omega))
  rw [hd] at y2
  clear o1
  have HB := Lib.hid B2
  have hl1 : (s.data.toList.take 6).length = 6 := by simp; omega
  have hl2 : ((s.data.toList.drop 58).take 6).length = 6 := by simp; omega
  generalize s.data.toList.take 6 = l at *
  generalize (s.data.toList.drop 58).take 6 = m at *
  obtain ⟨c0, c1, c2, c3, c4, c5, rfl, ⟨p0, p1, p2, p3, p4, p5⟩, ⟨q0, q1, q2, q3, q4, q5⟩⟩ := x2.open hl1
  obtain ⟨d0, d1, d2, d3, d4, d5, rfl, ⟨r0, r1, r2, r3, r4, r5⟩, ⟨s0, s1, s2, s3, s4, s5⟩⟩ := y2.open hl2
  clear x1 y1 b1 B1 b2 B2 x2 y2 hl1 hl2 hd
  go_enter Tryz.func101, Tryz.ntmps101
  go_wp2_with fail
  go_region
  go_wp2_with fail
  refine bodyPost_ret (v := .tuple #[M6 [c0, c1, c2, c3, c4, c5], M6 [d0, d1, d2, d3, d4, d5]]) (by simp [results, Tryz.results101, go_sem, bv, *]) rfl ⟨rfl, ?_⟩
  exact (HB.out.set6 (Nat.le_refl _) _ _ _ _ _ _).set6 (Nat.le_succ _) _ _ _ _ _ _

/-- An array of six bytes as a string. -/
theorem conv6 {w : World} {g : Nat} {b0 b1 b2 b3 b4 b5 : UInt8} (h : Six w g [b0, b1, b2, b3, b4, b5]) :
    (convert 59 9 (.slice (some ⟨g, 0, none⟩) 6 6)).run Tryz.prog w = .ok (.string ⟨#[b0, b1, b2, b3, b4, b5]⟩) w :=
  run_convert_bytes_back (P := Tryz.prog) _ 59 9 5 ⟨g, 0, none⟩ 6 [b0, b1, b2, b3, b4, b5] Tryz.underlying59 Tryz.underlying5 Tryz.underlying9 (fun j hj => by
    have e : (⟨g, 0, none⟩ : Addr).add j = ⟨g, j, none⟩ := by by_cases h0 : j = 0 <;> simp [Addr.add, h0]
    rw [e]; exact h.cell hj)
theorem Six.drewN {w : World} {g : Nat} {l : List UInt8} (h : Six w g l) (n : Nat) : Six (w.drewN n) g l := h

set_option maxRecDepth 20000 in
set_option maxHeartbeats 400000 in
theorem number_any (l : List UInt8) (w : World) (hl : l.length = 6) :
    Calls Tryz.prog 102 #[M6 l] w fun e w' => e = .returned (.int .i64 (natBE l)) ∧ Below w.heap.size w w' := by
  obtain ⟨b0, b1, b2, b3, b4, b5, rfl⟩ := six hl
  have hx := Six.new w [b0, b1, b2, b3, b4, b5]
  have hcv : (convert 59 9 (.slice (some ⟨w.heap.size, 0, none⟩) 6 6)).run Tryz.prog (w.alloc (.cells (bv [b0, b1, b2, b3, b4, b5]).toArray 171)) = .ok (.string ⟨#[b0, b1, b2, b3, b4, b5]⟩) (w.alloc (.cells (bv [b0, b1, b2, b3, b4, b5]).toArray 171)) :=
    conv6 hx
  have hn := fun W => num_ok ⟨#[b0, b1, b2, b3, b4, b5]⟩ 0 6 W (by unfold maxLen; simp [ByteArray.size]) (by omega) (by simp [ByteArray.size]) (by omega) (by omega)
  have e : numAt ⟨#[b0, b1, b2, b3, b4, b5]⟩ 0 (Int.toNat 6) = natBE [b0, b1, b2, b3, b4, b5] := by simp [numAt]
  rw [e, Int.zero_add] at hn
  have HN := Lib.hid hn
  have HB := Lib.hid ((Below.refl _ w).push (.cells (bv [b0, b1, b2, b3, b4, b5]).toArray 171))
  clear hx hl e hn
  go_enter Tryz.func102, Tryz.ntmps102
  go_wp2_with fail
  refine (new_any _ _).mono ?_
  rintro r w1 ⟨rfl, hb⟩
  have HB1 := Lib.hid (HB.out.call hb)
  clear hb HB
  go_wp2_with fail
  refine (HN.out _).mono ?_
  rintro r w2 ⟨rfl, hb⟩
  have HB2 := Lib.hid (HB1.out.call hb)
  have hz := HB2.out.size
  clear hb HB1
  go_wp2_with fail
  go_ret
  refine ⟨rfl, ?_⟩
  exact HB2.out.push _

end Go.Proofs.YtkglolnghihegaaGreatDoor.Sht

/- Two arrays of bytes, held against each other. -/
namespace Go.Proofs.YtkglolnghihegaaGreatDoor.Sht
open Go.RowKit Go.Proofs.YtkglolnghihegaaGreatDoor.Oct

theorem plain5 : Tryz.prog.plainKey 5 = true := by kernel_rfl
theorem cells5 : Tryz.prog.cellsOf 5 = 1 := by kernel_rfl

theorem run_items (W : World) (d : Nat) (l m : List UInt8) : ∀ is : List Nat, (∀ i ∈ is, i < l.length ∧ i < m.length) →
    (Op.eqItems (d + 1) 5 1 (bv l).toArray (bv m).toArray is).run Tryz.prog W = .ok (is.all fun i => l[i]? == m[i]?) W
  | [], _ => by simp [Op.eqItems]
  | i :: is, h => by
    obtain ⟨h1, h2⟩ := h i (by simp)
    have e1 : (part 5 (bv l).toArray i).run Tryz.prog W = .ok (.int .u8 l[i].toNat) W := run_part_plain W plain5 (by simp [bv, h1])
    have e2 : (part 5 (bv m).toArray i).run Tryz.prog W = .ok (.int .u8 m[i].toNat) W := run_part_plain W plain5 (by simp [bv, h2])
    have e3 := run_equalIn_int (P := Tryz.prog) (w := W) d 5 .u8 .u8 l[i].toNat m[i].toNat Tryz.underlying5
    have ih := run_items W d l m is (fun j hj => h j (by simp [hj]))
    have e4 : ((l[i].toNat : Int) == m[i].toNat) = (l[i] == m[i]) := by
      by_cases h : l[i] = m[i]
      · simp [h]
      · have h' : ¬ ((l[i].toNat : Int) = m[i].toNat) := fun e => h (UInt8.toNat_inj.1 (by omega))
        rw [beq_eq_false_iff_ne.2 h, beq_eq_false_iff_ne.2 h']
    rw [e4] at e3
    simp only [Op.eqItems, Sem.run_bind, Nat.mul_one, e1, e2, e3, Result.andThen_ok, List.all_cons, List.getElem?_eq_getElem h1, List.getElem?_eq_getElem h2]
    by_cases h : l[i] = m[i]
    · simp [h, ih]
    · simp [h]

theorem all_eq (l m : List UInt8) (hl : l.length = 6) (hm : m.length = 6) : ((List.range 6).all fun i => l[i]? == m[i]?) = decide (l = m) := by
  obtain ⟨c0, c1, c2, c3, c4, c5, rfl⟩ := six hl
  obtain ⟨d0, d1, d2, d3, d4, d5, rfl⟩ := six hm
  rw [Bool.eq_iff_iff]
  simp [List.range_succ]

theorem eq6' (W : World) (d : Nat) (l m : List UInt8) (hl : l.length = 6) (hm : m.length = 6) :
    (Op.equalIn (d + 1 + 1) 171 (M6 l) (M6 m)).run Tryz.prog W = .ok (decide (l = m)) W := by
  obtain ⟨i, hi⟩ := info_of_underlying Tryz.underlying5
  rw [run_equalIn_array (P := Tryz.prog) W (d + 1) _ _ Tryz.underlying171 hi, cells5, run_items W d l m _ (fun i hi => by simp at hi; omega)]
  rw [all_eq l m hl hm]

theorem eq6 (W : World) (l m : List UInt8) (hl : l.length = 6) (hm : m.length = 6) : (Op.equalIn 10000 171 (M6 l) (M6 m)).run Tryz.prog W = .ok (decide (l = m)) W := eq6' W 9998 l m hl hm

end Go.Proofs.YtkglolnghihegaaGreatDoor.Sht
