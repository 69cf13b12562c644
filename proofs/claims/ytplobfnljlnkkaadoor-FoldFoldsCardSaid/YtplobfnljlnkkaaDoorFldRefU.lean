/- Contract of the document's Unfold (errandref15). -/
import Derived.Test.YtplobfnljlnkkaaDoorFldRefA
import Derived.Test.YtplobfnljlnkkaaDoorFldMem
import Derived.RegionTactic
import Derived.Deep.DeepCutAuto
import Derived.BigRegion
set_option linter.unusedVariables false
namespace Go.Proofs.YtplobfnljlnkkaaDoor.Fld
open Go.RowKit Go.Proofs.YtplobfnljlnkkaaDoor.Byt Go.Proofs.YtplobfnljlnkkaaDoor.Utf Go.Proofs.YtplobfnljlnkkaaDoor.Tre

theorem rinfoL : (Tryd.prog.info? 40).map (fun i => (i.zero, i.size, i.bytes)) = some (some (.agg #[.string ByteArray.empty, .slice none 0 0]), 2, 40) := by kernel_rfl
theorem rinfoP : (Tryd.prog.info? 60).map (fun i => (i.zero, i.size, i.bytes)) = some (some (.agg #[.int .i64 0, .int .i64 0]), 2, 16) := by kernel_rfl
theorem sub_extract (s : ByteArray) (i j : Nat) : (⟨(sub s.data.toList i j).toArray⟩ : ByteArray) = s.extract i j := by
  have e : (s.extract i j).data.toList = sub s.data.toList i j := by unfold sub; simp
  rw [← e, mk_list]
/-- A row of lines of the call's own: a line more. -/
theorem lines_new {w wr : World} {acc : List PL} {v : Value} {F : List Nat} (ho : Ow w wr (lsD 40 60 acc) v F) (hb : Bl w wr) (l : PL) (p : Int) (hp : l.ps = [(0, p)]) (hn : acc.length ≤ 100000) :
    ∃ v' w' F', (Builtin.append_ #[28, 28] 28 #[v, .slice (some ⟨wr.heap.size + 1, 0, none⟩) 1 1]).run Tryd.prog ((wr.alloc (.cells #[.int .i64 0, .int .i64 p] 60)).alloc (.cells #[.string ⟨l.t.toArray⟩, .slice (some ⟨wr.heap.size, 0, none⟩) 1 1] 40)) = .ok v' w' ∧
      Ow w w' (lsD 40 60 (acc ++ [l])) v' F' ∧ Bl w w' := by
  have hB := hb.le
  have o1 : Own (wr.alloc (.cells #[.int .i64 0, .int .i64 p] 60)) w.heap.size (pD 60 l.ps) (.slice (some ⟨wr.heap.size, 0, none⟩) 1 1) [wr.heap.size] := by
    have := own_new (w := wr) (B := w.heap.size) (e := 60) (k := 2) (n := 1) (ones wr w.heap.size [.int .i64 0, .int .i64 p]) rfl hB (by omega)
    rw [ones_flat] at this
    rw [hp]
    exact this
  have hs : (wr.alloc (.cells #[.int .i64 0, .int .i64 p] 60)).heap.size = wr.heap.size + 1 := by simp
  have hlt := ho.own.lt
  obtain ⟨v', w', F', r1, r2, r3, r4, r5, r6⟩ := push_own (P := Tryd.prog) (w0 := w) (w := wr.alloc (.cells #[.int .i64 0, .int .i64 p] 60)) (t := 28) (ty := 28) Tryd.underlying28 rinfoL rfl (by omega)
    (own_alloc ho.own _) ho.nd ((Cells.nil _ w.heap.size).cons o1 |>.cons (.one (.string ⟨l.t.toArray⟩))) rfl (fun u hu => by
      rcases List.mem_cons.1 hu with rfl | hu
      · rfl
      · rcases List.mem_cons.1 hu with rfl | hu
        · rfl
        · cases hu) (by simp) (fun g hg hx => by
      have : g = wr.heap.size := by simpa using hx
      have := (hlt g hg).2
      omega) (by omega) (by omega) (hb.below.alloc hB _)
  rw [hs] at r1
  refine ⟨v', w', F', r1, ⟨?_, r3⟩, r5, r5.size⟩
  unfold lsD
  rw [List.flatMap_append, List.length_append, List.length_singleton]
  exact r2
/-- A row of pieces of the call's own: a piece more. -/
theorem pieces_new {w wr : World} {ps : List (Int × Int)} {v : Value} {F : List Nat} (ho : Ow w wr (pD 60 ps) v F) (hb : Bl w wr) (a b : Int) (hn : ps.length ≤ 100000) :
    ∃ v' w' F', (Builtin.append_ #[38, 38] 38 #[v, .slice (some ⟨wr.heap.size, 0, none⟩) 1 1]).run Tryd.prog (wr.alloc (.cells #[.int .i64 a, .int .i64 b] 60)) = .ok v' w' ∧
      Ow w w' (pD 60 (ps ++ [(a, b)])) v' F' ∧ Bl w w' ∧ (wr.alloc (.cells #[.int .i64 a, .int .i64 b] 60)).grownBy w' v.ownBlock ∧ (∀ g ∈ F', g ∈ F ∨ wr.heap.size < g) ∧ (∀ g, v.ownBlock = some g → g ∈ F) := by
  obtain ⟨v', w', F', r1, r2, r3, r4, r5, r6⟩ := push_own (P := Tryd.prog) (w0 := w) (w := wr) (t := 38) (ty := 38) Tryd.underlying38 rinfoP rfl (by omega)
    ho.own ho.nd (ones wr w.heap.size [.int .i64 a, .int .i64 b]) rfl (fun u hu => by
      rcases List.mem_cons.1 hu with rfl | hu
      · rfl
      · rcases List.mem_cons.1 hu with rfl | hu
        · rfl
        · cases hu) (by simp) (fun g hg hx => by simp at hx) (by omega) (by omega) hb.below
  refine ⟨v', w', F', r1, ⟨?_, r3⟩, ⟨r5, r5.size⟩, r4, fun g hg => ?_, fun g hg => ?_⟩
  · unfold pD
    rw [List.flatMap_append, List.length_append, List.length_singleton]
    exact r2
  · rcases r6 g hg with h | h | h
    · exact .inl h
    · simp at h
    · exact .inr h
  · obtain ⟨vs, Fs, rfl, _, _⟩ := ho.own.cells
    exact List.mem_append_left _ (mem_blk.2 hg)

theorem rowE_gt {L : List UInt8} {p : Nat} (hp : p < L.length) (hg : gos L p = true) : p + 1 ≤ rowE L p := by
  have ha := of_decide_eq_true hg
  have hb : (L[p]).toNat = at_ L p := by unfold at_; rw [List.getD_eq_getElem?_getD, List.getElem?_eq_getElem hp]; rfl
  have : eol (L.drop p) ≠ 0 := by
    rw [List.drop_eq_getElem_cons hp]
    unfold eol
    rw [if_neg (by omega)]
    omega
  unfold rowE
  omega
/-- What is kept from row to row. -/
structure Uf (L : List UInt8) (p : Nat) (acc : List PL) : Prop where
  u : unf L 0 [] = unf L p acc
  ne : p ≠ 0 → acc ≠ []
  n : acc.length ≤ p
  l : ∀ l ∈ acc, l.t.length ≤ p ∧ l.ps.length ≤ p
theorem Uf.new {L : List UInt8} {p : Nat} {acc : List PL} (h : Uf L p acc) (hp : p < L.length) (hg : gos L p = false) (hb : rowB L p = false) : Uf L (rowN L p) (acc ++ [⟨sub L p (rowE L p), [(0, (p : Int))]⟩]) := by
  have hr := rowN_lt L p hp hb
  refine ⟨h.u.trans (unf_new hp hg hb acc), fun _ => by simp, by have := h.n; simp; omega, fun l hl => ?_⟩
  rcases List.mem_append.1 hl with hl | hl
  · have := h.l l hl; omega
  · have : l = ⟨sub L p (rowE L p), [(0, (p : Int))]⟩ := by simpa using hl
    subst this
    have : (sub L p (rowE L p)).length = rowE L p - p := by unfold sub; rw [List.length_take, List.length_drop]; omega
    exact ⟨by show (sub L p (rowE L p)).length ≤ _; omega, by show 1 ≤ _; omega⟩
theorem Uf.on {L : List UInt8} {p : Nat} {init : List PL} {l : PL} (h : Uf L p (init ++ [l])) (hp : p < L.length) (hg : gos L p = true) (h0 : p ≠ 0) (hb : rowB L p = false) : Uf L (rowN L p) (init ++ [⟨l.t ++ sub L (p + 1) (rowE L p), l.ps ++ [((l.t.length : Int), (p : Int) + 1)]⟩]) := by
  have hr := rowN_lt L p hp hb
  have hu := h.u.trans (unf_on hp hg h0 hb _)
  rw [addL_last] at hu
  refine ⟨hu, fun _ => by simp, by have := h.n; simp at this ⊢; omega, fun x hx => ?_⟩
  rcases List.mem_append.1 hx with hx | hx
  · have := h.l x (by simp [hx]); omega
  · have : x = ⟨l.t ++ sub L (p + 1) (rowE L p), l.ps ++ [((l.t.length : Int), (p : Int) + 1)]⟩ := by simpa using hx
    subst this
    have hl := h.l l (by simp)
    have : (sub L (p + 1) (rowE L p)).length ≤ rowE L p - (p + 1) := by unfold sub; rw [List.length_take, List.length_drop]; omega
    exact ⟨by show (l.t ++ sub L (p + 1) (rowE L p)).length ≤ _; rw [List.length_append]; omega, by show (l.ps ++ [_]).length ≤ _; rw [List.length_append, List.length_singleton]; omega⟩
set_option maxRecDepth 20000 in
set_option maxHeartbeats 1000000 in
theorem runf_any (s : ByteArray) (hs : s.size ≤ 10000) (w : World) : Calls Tryd.prog 10 #[.string s] w fun r w' => ∃ v, r = .returned (.tuple #[v, .int .i64 (unfR s.data.toList).2.1, .int .i64 (unfR s.data.toList).2.2]) ∧ Rd w' (lsD 40 60 (unfR s.data.toList).1) v ∧ Below w.heap.size w w' := by
  by_cases hlong : (6000 : Int) < s.size
  · have e : unfR s.data.toList = ([], 5, 6000) := by unfold unfR; rw [if_pos (by rw [len_list]; omega)]
    rw [e]
    clear e
    go_enter Tryd.func10, Tryd.ntmps10
    go_wp2
    go_ret3
    exact ⟨_, rfl, .nil _ _ _ _, Below.refl _ _⟩
  · have e : unfR s.data.toList = unf s.data.toList 0 [] := by unfold unfR; rw [if_neg (by rw [len_list]; omega)]
    rw [e]
    clear e
    have HS := Lib.hid hs
    go_enter Tryd.func10, Tryd.ntmps10
    go_wp2_with fail
    go_loopw [5, 6] (fun v i wr => ∃ (p : Nat) (acc : List PL) (F : List Nat), p ≤ s.size ∧ i = .int .i64 p ∧ Hid (Uf s.data.toList p acc) ∧ Hid (Ow w wr (lsD 40 60 acc) v F) ∧ Hid (Bl w wr)) (fun _ i _ => s.size - (intOf i).toNat)
    case atStart => exact ⟨0, [], [], Nat.zero_le _, rfl, Lib.hid ⟨rfl, fun h => absurd rfl h, Nat.le_refl _, fun l h => by cases h⟩, Lib.hid ⟨Own.nil _ _ _ _, by simp⟩, Lib.hid (Bl.refl w)⟩
    case round =>
      obtain ⟨p, acc, F, hp, rfl, hu, ho, hb⟩ := hrel
      by_cases h : p < s.size
      · have h' : (p : Int) < s.size := by omega
        have hL : p < s.data.toList.length := by rw [len_list]; exact h
        have ha := at_get h
        have HR := Lib.hid (fun W => row_any s hs p hp W)
        obtain ⟨g1, g2⟩ := rowE_le s.data.toList p (by omega)
        rw [len_list] at g2
        have b1 := (s[p]'h).toNat_lt
        by_cases hg : gos s.data.toList p = true
        · have hyes := of_decide_eq_true hg
          rw [ha] at hyes
          by_cases h0 : p = 0
          · subst h0
            have HE := Lib.hid (hu.out.u.trans (unf_first hL hg acc))
            clear hg ha hL HR g1 g2
            rcases hyes with hy | hy
            · go_wp2_with fail
              go_ret3
              exact ⟨_, by rw [HE.out]; rfl, by rw [HE.out]; exact .nil _ _ _ _, hb.out.below⟩
            · go_wp2_with fail
              go_ret3
              exact ⟨_, by rw [HE.out]; rfl, by rw [HE.out]; exact .nil _ _ _ _, hb.out.below⟩
          · have t0 : ((p : Int) == 0) = false := by rw [beq_eq_false_iff_ne]; omega
            rcases hB : rowB s.data.toList p with _ | _
            · have hr := rowN_lt s.data.toList p hL hB
              rw [len_list] at hr
              obtain ⟨init, l, rfl⟩ : ∃ init l, acc = init ++ [l] := by
                rcases List.eq_nil_or_concat acc with h | ⟨i, l, h⟩
                · exact absurd h (hu.out.ne h0)
                · exact ⟨i, l, by rw [h, List.concat_eq_append]⟩
              have HU := Lib.hid (hu.out.on hL hg h0 hB)
              rw [hB] at HR
              have hll := hu.out.l l (by simp)
              have hn := hu.out.n
              rw [List.length_append, List.length_singleton] at hn
              obtain ⟨gO, c, pv, G, rfl, hgB, hgO, c0, c1, hpv, hgG, hgF, hGF, hlast⟩ := own_last ho.out
              have hpl := hpv.own.rd
              obtain ⟨pv', w3, G', ra, ro, rb, rg, rG, rown⟩ := pieces_new (wr := wr.alloc (.cells #[.string ⟨l.t.toArray⟩, pv] 40)) ⟨own_alloc hpv.own _, hpv.nd⟩ (hb.out.alloc _) (((ByteArray.mk l.t.toArray).size : Nat) : Int) ((p : Int) + 1) (by omega)
              have hs1 : (wr.alloc (.cells #[.string ⟨l.t.toArray⟩, pv] 40)).heap.size = wr.heap.size + 1 := by simp
              rw [hs1] at ra rG
              have hGlt : ∀ g ∈ G, g < wr.heap.size := fun g hg => (hpv.own.lt g hg).2
              have hFlt : ∀ g ∈ F, g < wr.heap.size := fun g hg => (ho.out.own.lt g hg).2
              have hk1 : ∀ g, g ≤ wr.heap.size → g ∉ G → w3.heap[g]? = (wr.alloc (.cells #[.string ⟨l.t.toArray⟩, pv] 40)).heap[g]? := fun g hg hx => by
                rw [rg.block g (by simp; omega) (fun hy => hx (rown g hy.symm))]
                exact Below.heap_alloc _ _ g (by rw [hs1]; omega)
              have hbox : w3.heap[wr.heap.size]? = some (.cells #[.string ⟨l.t.toArray⟩, pv] 40 (0, 0)) := by
                rw [hk1 _ (Nat.le_refl _) (fun hx => by have := hGlt _ hx; omega)]
                exact heap_alloc_new wr _
              have x0 : w3.cell? ⟨wr.heap.size, 0, none⟩ = some (.string ⟨l.t.toArray⟩) := by rw [cell_of_row w3 wr.heap.size 0 _ 40 _ hbox]; rfl
              have x1 : w3.cell? ⟨wr.heap.size, 1, none⟩ = some pv := by rw [cell_of_row w3 wr.heap.size 1 _ 40 _ hbox]; rfl
              have xf : ∀ i, w3.frozen? ⟨wr.heap.size, i, none⟩ = false := fun i => by simp [World.frozen?, hbox]
              have hkF : ∀ g ∈ F, g ∉ G → w3.heap[g]? = wr.heap[g]? := fun g hg hx => by
                rw [hk1 g (by have := hFlt g hg; omega) hx]
                exact Below.heap_alloc _ _ g (hFlt g hg)
              have hG' : ∀ g ∈ G', g ∈ G ∨ wr.heap.size ≤ g := fun g hg => (rG g hg).imp_right (by omega)
              have hbG' : wr.heap.size ∉ G' := fun hx => by
                rcases rG _ hx with h | h
                · have := hGlt _ h; omega
                · omega
              have hne : ¬ gO = wr.heap.size := by omega
              obtain ⟨yf, y0, y1, -⟩ := hlast w3 ⟨l.t ++ sub s.data.toList (p + 1) (rowE s.data.toList p), l.ps ++ [((((ByteArray.mk l.t.toArray).size : Nat) : Int), (p : Int) + 1)]⟩ pv' G' hkF ro hG'
              obtain ⟨-, -, -, F6, hF6⟩ := hlast ((w3.setCell ⟨wr.heap.size, 1, none⟩ pv').setCell ⟨wr.heap.size, 0, none⟩ (.string ⟨(l.t ++ sub s.data.toList (p + 1) (rowE s.data.toList p)).toArray⟩)) ⟨l.t ++ sub s.data.toList (p + 1) (rowE s.data.toList p), l.ps ++ [((((ByteArray.mk l.t.toArray).size : Nat) : Int), (p : Int) + 1)]⟩ pv' G'
                (fun g hg hx => by
                  have hn1 : g ≠ wr.heap.size := by have := hFlt g hg; omega
                  rw [Below.heap_setCell _ _ _ g hn1, Below.heap_setCell _ _ _ g hn1]
                  exact hkF g hg hx) ⟨(ro.own.set_far (p := ⟨wr.heap.size, 1, none⟩) hbG' _).set_far (p := ⟨wr.heap.size, 0, none⟩) hbG' _, ro.nd⟩ hG'
              have hbel := (((rb.below.setCell (p := ⟨wr.heap.size, 1, none⟩) hb.out.le pv').setCell (p := ⟨wr.heap.size, 0, none⟩) hb.out.le (.string ⟨(l.t ++ sub s.data.toList (p + 1) (rowE s.data.toList p)).toArray⟩)).setCell (p := ⟨gO, init.length * 2, none⟩) hgB (.string ⟨(l.t ++ sub s.data.toList (p + 1) (rowE s.data.toList p)).toArray⟩)).setCell (p := ⟨gO, init.length * 2 + 1, none⟩) hgB pv'
              rw [← mk_app, sub_extract] at hF6 hbel
              rw [show (l.t.length : Int) = (((ByteArray.mk l.t.toArray).size : Nat) : Int) by rw [size_mk]] at HU
              obtain ⟨ap, cp, rfl, hpcell⟩ := pieces_at hpl
              obtain ⟨ap', cp', rfl, hpcell'⟩ := pieces_at ro.own.rd
              clear hpcell'
              generalize (l.ps ++ [((((ByteArray.mk l.t.toArray).size : Nat) : Int), (p : Int) + 1)]).length = np at *
              have HA := Lib.hid ra
              have HF := Lib.hid hF6
              have HB := Lib.hid hbel
              have htx : (ByteArray.mk l.t.toArray).size ≤ 10000 := by rw [size_mk]; omega
              have hsz : (s.extract (p + 1) (rowE s.data.toList p)).size ≤ 10000 := by rw [ByteArray.size_extract]; omega
              have hE := rowE_gt hL hg
              clear hlast hkF hG' hbG' hk1 hbox rg rG rown ra ro rb hF6 hbel hpcell hpl hpv hgG hgF hGF hGlt hFlt hg ha hL hB hu
              generalize hEq : rowE s.data.toList p = e at *
              generalize hNq : rowN s.data.toList p = n at *
              generalize ByteArray.mk l.t.toArray = tx at *
              clear hEq hNq
              have k1 : (p : Int) + 1 ≤ e := by omega
              have k2 : (e : Int) ≤ s.size := by omega
              rcases hyes with hy | hy
              · go_wp2_with (first
                  | (go_at_call 28; with_reducible refine (HR.out _).mono ?_; rintro e w' ⟨rfl, rfl⟩)
                  | (at_builtin; refine wpList_append_run rfl (.tmp 51) (.tmp 58) 38 38 rfl _ _ rfl rfl _ w3 HA.out ?_))
                go_region
                go_wp2_with fail
                go_roundw
                case rel => exact ⟨n, _, F6, by omega, rfl, HU, Lib.hid HF.out.drew, Lib.hid ⟨HB.out.drew, HB.out.size⟩⟩
                case measure => simp [intOf]; omega
              · go_wp2_with (first
                  | (go_at_call 28; with_reducible refine (HR.out _).mono ?_; rintro e w' ⟨rfl, rfl⟩)
                  | (at_builtin; refine wpList_append_run rfl (.tmp 51) (.tmp 58) 38 38 rfl _ _ rfl rfl _ w3 HA.out ?_))
                go_region
                go_wp2_with fail
                go_roundw
                case rel => exact ⟨n, _, F6, by omega, rfl, HU, Lib.hid HF.out.drew, Lib.hid ⟨HB.out.drew, HB.out.size⟩⟩
                case measure => simp [intOf]; omega
            · have HE := Lib.hid (hu.out.u.trans (unf_bad hL (.inr h0) hB acc))
              rw [hB] at HR
              clear hg ha hL hB
              generalize rowE s.data.toList p = e at *
              generalize rowN s.data.toList p = n at *
              rcases hyes with hy | hy
              · go_wp2_with (go_at_call 28; with_reducible refine (HR.out _).mono ?_; rintro e w' ⟨rfl, rfl⟩)
                go_ret3
                exact ⟨_, by rw [HE.out]; rfl, by rw [HE.out]; exact .nil _ _ _ _, hb.out.below⟩
              · go_wp2_with (go_at_call 28; with_reducible refine (HR.out _).mono ?_; rintro e w' ⟨rfl, rfl⟩)
                go_ret3
                exact ⟨_, by rw [HE.out]; rfl, by rw [HE.out]; exact .nil _ _ _ _, hb.out.below⟩
        · have hg' : gos s.data.toList p = false := by simpa using hg
          have hno := of_decide_eq_false hg'
          rw [ha] at hno
          have t1 : (((s[p]'h).toNat : Int) == 32) = false := by rw [beq_eq_false_iff_ne]; omega
          have t2 : (((s[p]'h).toNat : Int) == 9) = false := by rw [beq_eq_false_iff_ne]; omega
          rcases hB : rowB s.data.toList p with _ | _
          · have hr := rowN_lt s.data.toList p hL hB
            rw [len_list] at hr
            have hu2 := hu.out.new hL hg' hB
            rw [hB] at HR
            have hn := hu.out.n
            obtain ⟨v', w', F', ra, ro, rb⟩ := lines_new ho.out hb.out ⟨sub s.data.toList p (rowE s.data.toList p), [(0, (p : Int))]⟩ p rfl (by omega)
            have HU := Lib.hid hu2
            have HO := Lib.hid ro
            have HB := Lib.hid rb
            rw [sub_extract] at ra
            have HA := Lib.hid ra
            have hsz : (s.extract p (rowE s.data.toList p)).size ≤ 10000 := by rw [ByteArray.size_extract]; omega
            clear hu2 ro rb ra hno hg hg' hB ha hL hn
            generalize rowE s.data.toList p = e at *
            generalize rowN s.data.toList p = n at *
            have k1 : (p : Int) ≤ e := by omega
            have k2 : (e : Int) ≤ s.size := by omega
            go_wp2_with (first
              | (go_at_call 28; with_reducible refine (HR.out _).mono ?_; rintro e w' ⟨rfl, rfl⟩)
              | (at_builtin; refine wpList_append_run rfl (.tmp 76) (.tmp 85) 28 28 rfl _ _ rfl rfl v' w' HA.out ?_))
            go_roundw
            case rel => exact ⟨n, _, F', by omega, rfl, HU, HO, HB⟩
            case measure => simp [intOf]; omega
          · have HE := Lib.hid (hu.out.u.trans (unf_bad hL (.inl hg') hB acc))
            rw [hB] at HR
            clear hno hg hg' hB ha hL
            generalize rowE s.data.toList p = e at *
            generalize rowN s.data.toList p = n at *
            go_wp2_with (go_at_call 28; with_reducible refine (HR.out _).mono ?_; rintro e w' ⟨rfl, rfl⟩)
            go_ret3
            exact ⟨_, by rw [HE.out]; rfl, by rw [HE.out]; exact .nil _ _ _ _, hb.out.below⟩
      · obtain rfl : p = s.size := by omega
        have HE := Lib.hid (hu.out.u.trans (unf_end (by rw [len_list]; omega) acc))
        go_wp2_with fail
        go_ret3
        exact ⟨_, by rw [HE.out]; rfl, by rw [HE.out]; exact ho.out.own.rd, hb.out.below⟩
end Go.Proofs.YtplobfnljlnkkaaDoor.Fld
