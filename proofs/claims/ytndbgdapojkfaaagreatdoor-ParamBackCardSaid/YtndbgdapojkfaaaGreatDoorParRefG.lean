/- Contract of the document's param (errandref17): Parse. -/
import Derived.Test.YtndbgdapojkfaaaGreatDoorParRefF
set_option linter.unusedVariables false
namespace Go.Proofs.YtndbgdapojkfaaaGreatDoor.Par
open Go.RowKit Go.Deep Go.Proofs.YtndbgdapojkfaaaGreatDoor.Byt Go.Proofs.YtndbgdapojkfaaaGreatDoor.Utf Go.Proofs.YtndbgdapojkfaaaGreatDoor.Tre Go.Proofs.YtndbgdapojkfaaaGreatDoor.Txt

/-- What Parse answers. -/
def ParR (w : World) (x : List PP × Nat × Int) (r : Ending) (w' : World) : Prop := ∃ a c, r = .returned (.tuple #[.slice a x.1.length c, .int .i64 x.2.1, .int .i64 x.2.2]) ∧ (x.1.length : Int) ≤ c ∧ Rd w' (psD 49 x.1) (.slice a x.1.length c) ∧ Below w.heap.size w w'
/-- The same, and that what it tells is the call's own. -/
def ParO (w : World) (x : List PP × Nat × Int) (r : Ending) (w' : World) : Prop := ∃ a c F, r = .returned (.tuple #[.slice a x.1.length c, .int .i64 x.2.1, .int .i64 x.2.2]) ∧ (x.1.length : Int) ≤ c ∧ Own w' w.heap.size (psD 49 x.1) (.slice a x.1.length c) F ∧ Below w.heap.size w w'
/-- Places told from further ahead. -/
def shift {α : Type} (p : Nat) (r : α × Nat × Int) : α × Nat × Int := (r.1, p + r.2.1, r.2.2)
theorem parR_no {w wr : World} {x : List PP × Nat × Int} {p e : Int} {n : Nat} (hx : x = ([], n, e)) (hp : p = n) (hb : Bl w wr) : ParO w x (.returned (.tuple #[.slice none 0 0, .int .i64 p, .int .i64 e])) wr := by
  subst hx hp
  exact ⟨none, 0, [], rfl, Int.le_refl _, Own.nil _ _ _ _, hb.below⟩
/-- Where Parse stands: parameters of the call's own, and the one under way in its box. -/
structure Pw (w wq : World) (out : List PP) (v : Value) (F : List Nat) (gb : Nat) (t : ByteArray) (vs : List (List UInt8)) (pv : Value) (G : List Nat) : Prop where
  bl : Bl w wq
  out : Txt.Ow w wq (psD 49 out) v F
  box : Tre.Blk wq gb 49 [.string t, pv]
  hb : w.heap.size ≤ gb
  vs : Txt.Ow w wq (txD (mks vs)) pv G
  d1 : ∀ g ∈ F, g ∉ G
  d2 : gb ∉ F
  d3 : gb ∉ G
theorem Pw.new {w wr : World} {out : List PP} {v : Value} {F : List Nat} (hb : Bl w wr) (ho : Txt.Ow w wr (psD 49 out) v F) (t : ByteArray) : Pw w (wr.alloc (.cells #[.string t, .slice none 0 0] 49)) out v F wr.heap.size t [] (.slice none 0 0) [] :=
  ⟨hb.alloc _, ⟨own_alloc ho.own _, ho.nd⟩, Tre.Blk.new wr _ [.string t, .slice none 0 0], hb.le, Txt.Ow.nil _ _, fun g _ => by simp, fun hx => by have := (ho.own.lt _ hx).2; omega, by simp⟩
theorem Pw.call {w wq wr : World} {out : List PP} {v : Value} {F : List Nat} {gb : Nat} {t : ByteArray} {vs : List (List UInt8)} {pv : Value} {G : List Nat} (h : Pw w wq out v F gb t vs pv G) (hb : Below wq.heap.size wq wr) : Pw w wr out v F gb t vs pv G :=
  ⟨h.bl.call hb, h.out.call hb, h.box.kept (hb.block _ h.box.lt), h.hb, h.vs.call hb, h.d1, h.d2, h.d3⟩
/-- One value more. -/
theorem Pw.step {w wq : World} {out : List PP} {v : Value} {F : List Nat} {gb : Nat} {t : ByteArray} {vs : List (List UInt8)} {pv : Value} {G : List Nat} (h : Pw w wq out v F gb t vs pv G) (x : List UInt8) (hn : vs.length ≤ 100000) :
    ∃ v' w' G', (Builtin.append_ #[44, 44] 44 #[pv, .slice (some ⟨wq.heap.size, 0, none⟩) 1 1]).run Tryz.prog (wq.alloc (.cells #[.string ⟨x.toArray⟩] 9)) = .ok v' w' ∧
      Tre.Blk w' gb 49 [.string t, pv] ∧ Pw w (w'.setCell ⟨gb, 1, none⟩ v') out v F gb t (vs ++ [x]) v' G' := by
  obtain ⟨v', w', G', r1, r2, r3, r5, r4, r6⟩ := texts_new h.vs h.bl ⟨x.toArray⟩ (by rw [mks_len]; exact hn)
  rw [← mks_snoc] at r2
  have hg : ∀ g, g < wq.heap.size → g ∉ G → w'.heap[g]? = wq.heap[g]? := fun g hg hx => by
    rw [r4.block g (by simp; omega) (fun hy => hx (r6 g hy.symm))]
    exact Below.heap_alloc wq _ g hg
  have hbx := h.box.kept (hg gb h.box.lt h.d3)
  have d3' : gb ∉ G' := fun hx => by
    rcases r5 _ hx with h1 | h1
    · exact h.d3 h1
    · have := h.box.lt; omega
  refine ⟨v', w', G', r1, hbx, ⟨⟨r3.below.setCell (p := ⟨gb, 1, none⟩) h.hb _, by simpa using r3.le⟩, ⟨(h.out.own.kept fun g hx => hg g (h.out.own.lt g hx).2 (h.d1 g hx)).set_far (p := ⟨gb, 1, none⟩) h.d2 _, h.out.nd⟩, hbx.set_ 1 _, h.hb, ⟨r2.own.set_far (p := ⟨gb, 1, none⟩) d3' _, r2.nd⟩, fun g hx hy => ?_, h.d2, d3'⟩⟩
  rcases r5 _ hy with h1 | h1
  · exact h.d1 g hx h1
  · have := (h.out.own.lt g hx).2; omega
/-- Where the loop over values stands. -/
structure Inn (s : ByteArray) (k q : Nat) (acc : List (List UInt8)) : Prop where
  len : acc.length ≤ 6
  on : (q = k ∨ at_ (s.data.toList.drop q) 0 = 44) → vals (s.data.toList.drop (k + 1)) [] = shift (q - k) (vals (s.data.toList.drop (q + 1)) acc)
  off : q ≠ k → at_ (s.data.toList.drop q) 0 ≠ 44 → vals (s.data.toList.drop (k + 1)) [] = (acc, q - (k + 1), 0)
theorem Inn.start (s : ByteArray) (k : Nat) : Inn s k k [] := ⟨Nat.zero_le _, fun _ => by unfold shift; simp, fun h => absurd rfl h⟩
theorem Inn.step {s : ByteArray} {k q m : Nat} {acc : List (List UInt8)} {v : List UInt8} (h : Inn s k q acc) (hk : k ≤ q) (hon : q = k ∨ at_ (s.data.toList.drop q) 0 = 44) (ha : acc.length < 6) (hv : val (s.data.toList.drop (q + 1)) = (v, m, 0)) : Inn s k (q + 1 + m) (acc ++ [v]) := by
  refine ⟨by simp; omega, fun hx => ?_, fun _ hx => ?_⟩
  · have hx' : at_ (s.data.toList.drop (q + 1 + m)) 0 = 44 := by
      rcases hx with hx | hx
      · omega
      · exact hx
    rw [h.on hon, vals_on ha hv (by rw [List.drop_drop]; exact hx'), List.drop_drop, List.tail_drop]
    generalize vals (s.data.toList.drop (q + 1 + m + 1)) (acc ++ [v]) = r
    unfold shift
    simp only [Prod.mk.injEq, true_and, and_true]
    omega
  · rw [h.on hon, vals_end ha hv (by rw [List.drop_drop]; exact hx)]
    unfold shift
    simp only [Prod.mk.injEq, true_and, and_true]
    omega
theorem own_cap {w : World} {B : Nat} {e : TypeId} {k n m c : Nat} {cs : List Dat} {a : Option Addr} {F : List Nat} (h : Own w B (.sl e k n cs) (.slice a m c) F) : (m : Int) ≤ c := by
  obtain ⟨vs, Fs, -, h1, -⟩ := h.cells
  rcases h1.2 with ⟨x, -⟩ | ⟨g, cap, cur, x, -, -, y, -⟩
  · injection x with x1 x2 x3; subst x2 x3; exact Int.le_refl _
  · injection x with x1 x2 x3; subst x2 x3; omega
/-- A byte of a text, in upper case. -/
theorem up_one (s : ByteArray) (k : Nat) (hk : k < s.size) : ∃ (y : ByteArray) (hz : y.size = 1), (y[0]'(by omega)) = up (s[k]'hk) ∧ Hid (∀ W, Calls Tryz.prog 31 #[.string (s.extract k (k + 1))] W fun r w' => r = .returned (.string y) ∧ Below W.heap.size W w') := by
  refine ⟨⟨[up (s[k]'hk)].toArray⟩, rfl, rfl, Lib.hid fun W => ?_⟩
  have := rupper_any (s.extract k (k + 1)) (by rw [ByteArray.size_extract]; omega) W
  rw [one_at hk] at this
  exact this
theorem up_many (s : ByteArray) (p k : Nat) (h : k - p ≤ 1000) : Hid (∀ W, Calls Tryz.prog 31 #[.string (s.extract p k)] W fun r w' => r = .returned (.string ⟨(((s.data.toList.drop p).take (k - p)).map up).toArray⟩) ∧ Below W.heap.size W w') := Lib.hid fun W => by
  have := rupper_any (s.extract p k) (by rw [ByteArray.size_extract]; omega) W
  rwa [mid_list] at this
theorem nsg_no {b : UInt8} (h : nsg b = false) : sgn (up b) = true := by unfold nsg at h; simpa using h
theorem nsg_yes {b : UInt8} (h : nsg b = true) : sgn (up b) = false := by unfold nsg at h; simpa using h
set_option maxRecDepth 100000 in
set_option maxHeartbeats 1000000 in
theorem rparse_own (s : ByteArray) (hs : s.size ≤ 5000) (w : World) : Calls Tryz.prog 9 #[.string s] w (ParO w (prs s.data.toList [])) := by
  have HS := Lib.hid hs
  go_enter Tryz.func9, Tryz.ntmps9
  go_wp2_with fail
  go_loopw [5, 6] (fun v i wr => ∃ (p : Nat) (out : List PP) (F : List Nat), p ≤ s.size ∧ i = .int .i64 p ∧ out.length ≤ 6 ∧ Hid (prs s.data.toList [] = shift p (prs (s.data.toList.drop p) out)) ∧ Hid (Txt.Ow w wr (psD 49 out) v F) ∧ Hid (Bl w wr)) (fun _ i _ => s.size - (intOf i).toNat)
  case atStart => exact ⟨0, [], [], Nat.zero_le _, rfl, Nat.zero_le _, Lib.hid (by unfold shift; simp), Lib.hid (ps_nil _ _ _), Lib.hid (Bl.refl w)⟩
  case round =>
    obtain ⟨p, out, F, hp, rfl, ho6, hq, ho, hb⟩ := hrel
    obtain ⟨av, cv, rfl⟩ := sl_ps ho.out.own.rd
    have HCP := Lib.hid (own_cap ho.out.own)
    by_cases hps : p < s.size
    · have hps' : (p : Int) < s.size := by omega
      by_cases h0 : (s[p]'hps).toNat = 59
      · have h59 : at_ (s.data.toList.drop p) 0 = 59 := by rw [at_first hps]; exact h0
        by_cases h6 : out.length = 6
        · have h6' : ((out.length : Int) == 6) = true := by simp; omega
          have HX : Hid (prs s.data.toList [] = ([], p, 20)) := Lib.hid (hq.out.trans (by rw [prs_many h59 (by omega)]; rfl))
          clear hq ho h59
          go_wp2_with fail
          go_ret3
          exact parR_no HX.out (by omega) hb.out
        · have h6' : ((out.length : Int) == 6) = false := by rw [beq_eq_false_iff_ne]; omega
          have hT : (s.data.toList.drop p).tail = s.data.toList.drop (p + 1) := by rw [drop_at hps]; rfl
          have hp1 : p + 1 ≤ s.size := hps
          obtain ⟨g1, g2, g3⟩ := pre_at nsg (p + 1) hp1 _ rfl
          obtain ⟨e, he⟩ : ∃ e, e = p + 1 + pre nsg (s.data.toList.drop (p + 1)) := ⟨_, rfl⟩
          have hn : pre nsg (s.data.toList.drop (p + 1)) = e - (p + 1) := by omega
          rw [hn] at g1 g2 g3
          have e2 : p + 1 + (e - (p + 1)) = e := by omega
          rw [e2] at g1 g2
          have G3 : Hid (∀ h : e < s.size, nsg (s[e]'h) = true) := Lib.hid fun h => by
            have h5 := g3 (by omega)
            simp only [e2] at h5
            exact h5
          have G2 := Lib.hid g2
          have hep : p + 1 ≤ e := by omega
          have HN := Lib.hid hn
          have HT := Lib.hid hT
          have H59 := Lib.hid h59
          clear g2 g3 hn he e2 hT h59
          go_wp2_with fail
          go_loopw [7] (fun i wq => ∃ k : Nat, p + 1 ≤ k ∧ k ≤ e ∧ i = .int .i64 k ∧ Hid (Txt.Ow w wq (psD 49 out) (.slice av out.length cv) F) ∧ Hid (Bl w wq)) (fun i _ => e - (intOf i).toNat)
          case atStart => exact ⟨p + 1, Nat.le_refl _, hep, by go_num, ho, hb⟩
          case round =>
            obtain ⟨k, hk0, hk, rfl, ho, hb⟩ := hrel
            by_cases hke : k < e
            · obtain ⟨hks, hq2⟩ := G2.out k hk0 (by omega)
              have hks' : (k : Int) < s.size := by omega
              have k1 : (k : Int) + 1 ≤ s.size := by omega
              obtain ⟨y, hz, hy, HU⟩ := up_one s k hks
              have HG : ∀ W, Calls Tryz.prog 30 #[.int .u8 (up (s[k]'hks)).toNat] W fun r w' => r = .returned (.bool true) ∧ W = w' := fun W => by
                have := sign_any (up (s[k]'hks)) W
                rwa [nsg_no hq2] at this
              have HG2 := Lib.hid HG
              clear HG hq2
              go_wp2_with (first
                | (go_at_call 31; with_reducible refine (HU.out _).mono ?_; rintro r w2 ⟨rfl, hbw⟩; have HBW := Lib.hid hbw; clear hbw)
                | (go_at_call 30; with_reducible refine (HG2.out _).mono ?_; rintro r w3 ⟨rfl, rfl⟩))
              go_roundw
              case rel => exact ⟨k + 1, by omega, by omega, by go_num, Lib.hid (ho.out.call HBW.out), Lib.hid (hb.out.call HBW.out)⟩
              case measure => simp [intOf]; omega
            · obtain rfl : k = e := by omega
              have hn := HN.out
              rw [← HT.out] at hn
              have HB := hb.out
              have hks2 : ∀ h : k < s.size, Hid (sgn (up (s[k]'h)) = false) := fun h => Lib.hid (nsg_yes (G3.out h))
              have hc : ¬ (k : Int) < s.size ∨ ∃ (hks : k < s.size) (y : ByteArray) (hz : y.size = 1), (y[0]'(by omega)) = up (s[k]'hks) ∧ Hid (∀ W, Calls Tryz.prog 31 #[.string (s.extract k (k + 1))] W fun r w' => r = .returned (.string y) ∧ Below W.heap.size W w') ∧ Hid (∀ W, Calls Tryz.prog 30 #[.int .u8 (up (s[k]'hks)).toNat] W fun r w' => r = .returned (.bool false) ∧ W = w') := by
                by_cases hks : k < s.size
                · obtain ⟨y, hz, hy, HU⟩ := up_one s k hks
                  refine .inr ⟨hks, y, hz, hy, HU, Lib.hid fun W => ?_⟩
                  have := sign_any (up (s[k]'hks)) W
                  rwa [(hks2 hks).out] at this
                · exact .inl (by omega)
              clear hks2 G2
              by_cases hk1 : k = p + 1 ∨ 24 < k - (p + 1)
              · have HX : Hid (prs s.data.toList [] = ([], p + 1, 4)) := Lib.hid (hq.out.trans (by rw [prs_name H59.out (by omega) (by rw [hn]; omega)]; rfl))
                clear hq hn HB
                rcases hk1 with hk1 | hk1
                · subst hk1
                  have te : (((p + 1 : Nat) : Int) == (p : Int) + 1) = true := by simp
                  rcases hc with hc | ⟨hks, y, hz, hy, HU, HG⟩
                  · go_wp2_with fail
                    go_ret3
                    exact parR_no HX.out (by omega) hb.out
                  · have hks' : ((p + 1 : Nat) : Int) < s.size := by omega
                    have k1 : ((p + 1 : Nat) : Int) + 1 ≤ s.size := by omega
                    go_wp2_with (first
                      | (go_at_call 31; with_reducible refine (HU.out _).mono ?_; rintro r w2 ⟨rfl, hbw⟩; have HBW := Lib.hid hbw; clear hbw)
                      | (go_at_call 30; with_reducible refine (HG.out _).mono ?_; rintro r w3 ⟨rfl, rfl⟩))
                    go_ret3
                    exact parR_no HX.out (by omega) (hb.out.call HBW.out)
                · have te : ((k : Int) == (p : Int) + 1) = false := by rw [beq_eq_false_iff_ne]; omega
                  have te2 : (24 : Int) < k - (p + 1) := by omega
                  rcases hc with hc | ⟨hks, y, hz, hy, HU, HG⟩
                  · go_wp2_with fail
                    go_ret3
                    exact parR_no HX.out (by omega) hb.out
                  · have hks' : (k : Int) < s.size := by omega
                    have k1 : (k : Int) + 1 ≤ s.size := by omega
                    go_wp2_with (first
                      | (go_at_call 31; with_reducible refine (HU.out _).mono ?_; rintro r w2 ⟨rfl, hbw⟩; have HBW := Lib.hid hbw; clear hbw)
                      | (go_at_call 30; with_reducible refine (HG.out _).mono ?_; rintro r w3 ⟨rfl, rfl⟩))
                    go_ret3
                    exact parR_no HX.out (by omega) (hb.out.call HBW.out)
              · have n1 : 1 ≤ k - (p + 1) := by omega
                have n2 : k - (p + 1) ≤ 24 := by omega
                have te : ((k : Int) == (p : Int) + 1) = false := by rw [beq_eq_false_iff_ne]; omega
                have te2 : ¬ (24 : Int) < k - (p + 1) := by omega
                have HNM := up_many s (p + 1) k (by omega)
                have HH : ∀ W, Rd W (psD 49 out) (.slice av out.length cv) → Calls Tryz.prog 32 #[.slice av out.length cv, .string ⟨(((s.data.toList.drop (p + 1)).take (k - (p + 1))).map up).toArray⟩] W fun r w' => r = .returned (.bool (hasN out (((s.data.toList.drop (p + 1)).take (k - (p + 1))).map up))) ∧ W = w' := fun W hW => by
                  have := has_any 49 out (by omega) ⟨(((s.data.toList.drop (p + 1)).take (k - (p + 1))).map up).toArray⟩ av cv W hW
                  rwa [mk_back] at this
                have HH2 := Lib.hid HH
                have HO0 := ho
                have HB0 := hb
                clear HH hk1 HB
                rcases hh : hasN out (((s.data.toList.drop (p + 1)).take (k - (p + 1))).map up) with _ | _
                · have hD : (s.data.toList.drop p).tail.drop (k - (p + 1)) = s.data.toList.drop k := by rw [HT.out, List.drop_drop, show p + 1 + (k - (p + 1)) = k by omega]
                  have hh2 : hasN out (((s.data.toList.drop p).tail.take (k - (p + 1))).map up) = false := by rw [HT.out]; exact hh
                  have HFM : Hid (at_ (s.data.toList.drop k) 0 ≠ 61 → prs s.data.toList [] = ([], k, 4)) := Lib.hid fun x => hq.out.trans (by
                    rw [prs_form H59.out (by omega) hn n1 n2 hh2 (by rw [hD]; exact x)]
                    unfold shift
                    simp only [Prod.mk.injEq, true_and, and_true]
                    omega)
                  have HVE : Hid (at_ (s.data.toList.drop k) 0 = 61 → ∀ (a : List (List UInt8)) (b : Nat) (e : Int), e ≠ 0 → vals (s.data.toList.drop (k + 1)) [] = (a, b, e) → prs s.data.toList [] = ([], k + 1 + b, e)) := Lib.hid fun x a b e he hv => hq.out.trans (by
                    have hv' : vals ((s.data.toList.drop p).tail.drop (k - (p + 1))).tail [] = (a, b, e) := by rw [hD, List.tail_drop]; exact hv
                    rw [prs_err H59.out (by omega) hn n1 n2 hh2 (by rw [hD]; exact x) (by rw [hv']; exact he), hv']
                    unfold shift
                    simp only [Prod.mk.injEq, true_and, and_true]
                    omega)
                  have HVO : Hid (at_ (s.data.toList.drop k) 0 = 61 → ∀ (vs : List (List UInt8)) (m : Nat), vals (s.data.toList.drop (k + 1)) [] = (vs, m, 0) → prs s.data.toList [] = shift (k + 1 + m) (prs (s.data.toList.drop (k + 1 + m)) (out ++ [⟨((s.data.toList.drop (p + 1)).take (k - (p + 1))).map up, vs⟩]))) := Lib.hid fun x vs m hv => hq.out.trans (by
                    have hv' : vals ((s.data.toList.drop p).tail.drop (k - (p + 1))).tail [] = (vs, m, 0) := by rw [hD, List.tail_drop]; exact hv
                    rw [prs_on H59.out (by omega) hn n1 n2 hh2 (by rw [hD]; exact x) hv', HT.out, List.drop_drop, show p + (1 + (k - (p + 1)) + 1 + m) = k + 1 + m by omega]
                    unfold shift
                    simp only [Prod.mk.injEq, true_and, and_true]
                    omega)
                  rw [hh] at HH2
                  clear hq hn hh hh2 hD
                  generalize ((s.data.toList.drop (p + 1)).take (k - (p + 1))).map up = N at *
                  generalize ht : ByteArray.mk N.toArray = nm at *
                  rcases hc with hc | ⟨hks, y, hz, hy, HU, HG⟩
                  · have HX := Lib.hid (HFM.out (by rw [at_none (by omega)]; decide))
                    have tk : ((k : Int) == s.size) = true := by simp; omega
                    have HB1 := HB0
                    have HO1 := HO0
                    clear HFM HVE HVO
                    go_wp2_with (first
                      | (go_at_call 31; with_reducible refine (HU.out _).mono ?_; rintro r w2 ⟨rfl, hbw⟩; have HB1 := Lib.hid (HB0.out.call hbw); have HO1 := Lib.hid (HO0.out.call hbw); clear hbw)
                      | (go_at_call 31; with_reducible refine (HNM.out _).mono ?_; rintro r w2 ⟨rfl, hbw⟩; have HB2 := Lib.hid (HB1.out.call hbw); have HO2 := Lib.hid (HO1.out.call hbw); clear hbw)
                      | (go_at_call 32; with_reducible refine (HH2.out _ (HO2.out.call (new1 _ _)).own.rd).mono ?_; rintro r w4 ⟨rfl, rfl⟩)
                      | (go_at_call 30; with_reducible refine (HG.out _).mono ?_; rintro r w3 ⟨rfl, rfl⟩))
                    go_ret3
                    exact parR_no HX.out (by omega) (HB2.out.alloc _)
                  · have hks' : (k : Int) < s.size := by omega
                    have k1 : (k : Int) + 1 ≤ s.size := by omega
                    have tk : ((k : Int) == s.size) = false := by rw [beq_eq_false_iff_ne]; omega
                    by_cases c61 : (s[k]'hks).toNat = 61
                    · have H61 : Hid (at_ (s.data.toList.drop k) 0 = 61) := Lib.hid (by rw [at_first hks]; exact c61)
                      go_wp2_with (first
                      | (go_at_call 31; with_reducible refine (HU.out _).mono ?_; rintro r w2 ⟨rfl, hbw⟩; have HB1 := Lib.hid (HB0.out.call hbw); have HO1 := Lib.hid (HO0.out.call hbw); clear hbw)
                      | (go_at_call 31; with_reducible refine (HNM.out _).mono ?_; rintro r w2 ⟨rfl, hbw⟩; have HB2 := Lib.hid (HB1.out.call hbw); have HO2 := Lib.hid (HO1.out.call hbw); clear hbw)
                      | (go_at_call 32; with_reducible refine (HH2.out _ (HO2.out.call (new1 _ _)).own.rd).mono ?_; rintro r w4 ⟨rfl, rfl⟩)
                      | (go_at_call 30; with_reducible refine (HG.out _).mono ?_; rintro r w3 ⟨rfl, rfl⟩))
                      have HP0 := Lib.hid (Pw.new HB2.out HO2.out nm)
                      generalize w2.heap.size = gb at *
                      clear HO2 HB2 HO1 HB1 HO0 HB0 HU HG HNM HH2 HFM tk te te2 hy
                      go_loopw [6] (fun i wq => ∃ (q : Nat) (acc : List (List UInt8)) (u : Value) (G : List Nat), k ≤ q ∧ q ≤ s.size ∧ i = .int .i64 q ∧ Hid (Inn s k q acc) ∧ Hid (Pw w wq out (.slice av out.length cv) F gb nm acc u G)) (fun i _ => s.size - (intOf i).toNat)
                      case atStart => exact ⟨k, [], _, [], Nat.le_refl _, by omega, rfl, Lib.hid (Inn.start s k), HP0⟩
                      case round =>
                        obtain ⟨q, acc, u, G, hkq, hqs0, rfl, hI, hP⟩ := hrel
                        obtain ⟨au, cu, rfl⟩ := sl_of hP.out.vs.own.rd
                        have hlen := hI.out.len
                        have x0 := hP.out.box.cell (i := 0) rfl
                        have x1 := hP.out.box.cell (i := 1) rfl
                        rw [mks_len] at x1
                        have hzz := hP.out.box.lt
                        have hc : (∃ hqs : q < s.size, ((q : Int) == k) = true ∧ (q = k ∨ at_ (s.data.toList.drop q) 0 = 44)) ∨ (∃ hqs : q < s.size, ((q : Int) == k) = false ∧ (s[q]'hqs).toNat = 44 ∧ (q = k ∨ at_ (s.data.toList.drop q) 0 = 44)) ∨ (((q : Int) == k) = false ∧ ¬ (q : Int) < s.size ∧ q ≠ k ∧ at_ (s.data.toList.drop q) 0 ≠ 44) ∨ (∃ hqs : q < s.size, ((q : Int) == k) = false ∧ (((s[q]'hqs).toNat : Int) == 44) = false ∧ q ≠ k ∧ at_ (s.data.toList.drop q) 0 ≠ 44) := by
                          by_cases e1 : q = k
                          · exact .inl ⟨by omega, by simp [e1], .inl e1⟩
                          · have e2 : ((q : Int) == k) = false := by rw [beq_eq_false_iff_ne]; omega
                            by_cases e3 : q < s.size
                            · have e4 := at_first e3
                              by_cases e5 : (s[q]'e3).toNat = 44
                              · exact .inr (.inl ⟨e3, e2, e5, .inr (by omega)⟩)
                              · exact .inr (.inr (.inr ⟨e3, e2, by rw [beq_eq_false_iff_ne]; omega, e1, by omega⟩))
                            · have e4 := at_none e3
                              exact .inr (.inr (.inl ⟨e2, by omega, e1, by omega⟩))
                        rcases hc with ⟨hqs, tq, hon⟩ | hc
                        rotate_left 1
                        rcases hc with ⟨hqs, tq, c44, hon⟩ | hc
                        rotate_left 1
                        · rcases hc with ⟨tq, hqs, hne, hoff⟩ | ⟨hqs, tq, c44, hne, hoff⟩
                          all_goals
                            (try have hqs' : (q : Int) < s.size := by omega)
                            have HX := Lib.hid (HVO.out H61.out acc (q - (k + 1)) (hI.out.off hne hoff))
                            rw [show k + 1 + (q - (k + 1)) = q by omega] at HX
                            obtain ⟨v', w', F', ra, ro, rb⟩ := params_push Tryz.underlying28 rinfoP (p := ⟨N, acc⟩) hP.out.out hP.out.vs hP.out.d1 hP.out.bl (by omega)
                            rw [ht, mks_len] at ra
                            have RA := Lib.hid ra
                            have RO := Lib.hid ro
                            have RB := Lib.hid rb
                            clear ra ro rb hI HVE HVO hoff hne
                            go_wp2_with (at_builtin; refine Byt.wpList_append_run rfl (.tmp 118) (.tmp 120) 28 28 rfl _ _ rfl rfl v' w' RA.out ?_)
                            go_roundw
                            case rel => exact ⟨q, out ++ [⟨N, acc⟩], F', hqs0, rfl, by simp; omega, HX, RO, RB⟩
                            case measure => simp [intOf]; omega
                        all_goals
                          have HON := Lib.hid (hI.out.on hon)
                          have hqs' : (q : Int) < s.size := by omega
                          by_cases a6 : acc.length = 6
                          · have ta : ((acc.length : Int) == 6) = true := by simp; omega
                            have HX := Lib.hid (HVE.out H61.out [] (q - k) 20 (by decide) (HON.out.trans (by rw [vals_many (by omega)]; rfl)))
                            clear hI HVE HVO HON hon
                            go_wp2_with fail
                            go_ret3
                            exact parR_no HX.out (by omega) hP.out.bl
                          · have ta : ((acc.length : Int) == 6) = false := by rw [beq_eq_false_iff_ne]; omega
                            rcases hV : val (s.data.toList.drop (q + 1)) with ⟨v, m, e⟩
                            have HVAL : Hid (∀ W, Calls Tryz.prog 33 #[.string s, .int .i64 ((q : Int) + 1)] W fun r w' => r = .returned (.tuple #[.string ⟨v.toArray⟩, .int .i64 ((q : Int) + 1 + m), .int .i64 e]) ∧ W = w') := Lib.hid fun W => by
                              have := value_any s HS.out (q + 1) (by omega) W
                              rw [hV] at this
                              exact this
                            by_cases he : e = 0
                            · subst he
                              obtain ⟨-, -, -, -, -, hm, -⟩ := val_was hV
                              rw [List.length_drop, len_list] at hm
                              have HI2 := Lib.hid (hI.out.step hkq hon (by omega) hV)
                              obtain ⟨v', w', G', ra, rb, rs⟩ := hP.out.step v (by omega)
                              obtain ⟨a2, c2, rfl⟩ := sl_of rs.vs.own.rd
                              have y0 := rb.cell (i := 0) rfl
                              have y1 := rb.cell (i := 1) rfl
                              rw [mks_len] at y1 ra
                              have yf := rb.frozen
                              have RA := Lib.hid ra
                              have RS := Lib.hid rs
                              clear ra rb rs hV hI HON hon
                              generalize ByteArray.mk v.toArray = tv at *
                              go_wp2_with (first
                                | (go_at_call 33; with_reducible refine (HVAL.out _).mono ?_; rintro r w5 ⟨rfl, rfl⟩)
                                | (at_builtin; refine Byt.wpList_append_run rfl (.tmp 112) (.tmp 114) 44 44 rfl _ _ rfl rfl _ w' RA.out ?_))
                              go_roundw
                              case rel => exact ⟨q + 1 + m, acc ++ [v], _, G', by omega, by omega, by go_num, HI2, RS⟩
                              case measure => simp [intOf]; omega
                            · have HX := Lib.hid (HVE.out H61.out [] (q - k + m) e he (HON.out.trans (by rw [vals_err (by omega) (by rw [hV]; exact he), hV]; rfl)))
                              have te3 : (e != 0) = true := by simp; omega
                              clear hI HVE HVO HON hon hV
                              generalize ByteArray.mk v.toArray = tv at *
                              go_wp2_with (go_at_call 33; with_reducible refine (HVAL.out _).mono ?_; rintro r w5 ⟨rfl, rfl⟩)
                              go_ret3
                              exact parR_no HX.out (by omega) hP.out.bl
                    · have HX := Lib.hid (HFM.out (by rw [at_first hks]; exact c61))
                      have t61 : (((s[k]'hks).toNat : Int) != 61) = true := by simp; omega
                      clear HFM HVE HVO
                      go_wp2_with (first
                      | (go_at_call 31; with_reducible refine (HU.out _).mono ?_; rintro r w2 ⟨rfl, hbw⟩; have HB1 := Lib.hid (HB0.out.call hbw); have HO1 := Lib.hid (HO0.out.call hbw); clear hbw)
                      | (go_at_call 31; with_reducible refine (HNM.out _).mono ?_; rintro r w2 ⟨rfl, hbw⟩; have HB2 := Lib.hid (HB1.out.call hbw); have HO2 := Lib.hid (HO1.out.call hbw); clear hbw)
                      | (go_at_call 32; with_reducible refine (HH2.out _ (HO2.out.call (new1 _ _)).own.rd).mono ?_; rintro r w4 ⟨rfl, rfl⟩)
                      | (go_at_call 30; with_reducible refine (HG.out _).mono ?_; rintro r w3 ⟨rfl, rfl⟩))
                      go_ret3
                      exact parR_no HX.out (by omega) (HB2.out.alloc _)
                · have HX : Hid (prs s.data.toList [] = ([], p + 1, 19)) := Lib.hid (hq.out.trans (by rw [prs_twice H59.out (by omega) hn n1 n2 (by rw [HT.out]; exact hh)]; rfl))
                  rw [hh] at HH2
                  clear hq hn hh
                  generalize ByteArray.mk (((s.data.toList.drop (p + 1)).take (k - (p + 1))).map up).toArray = nm at *
                  rcases hc with hc | ⟨hks, y, hz, hy, HU, HG⟩
                  · have HB1 := HB0
                    have HO1 := HO0
                    go_wp2_with (first
                      | (go_at_call 31; with_reducible refine (HU.out _).mono ?_; rintro r w2 ⟨rfl, hbw⟩; have HB1 := Lib.hid (HB0.out.call hbw); have HO1 := Lib.hid (HO0.out.call hbw); clear hbw)
                      | (go_at_call 31; with_reducible refine (HNM.out _).mono ?_; rintro r w2 ⟨rfl, hbw⟩; have HB2 := Lib.hid (HB1.out.call hbw); have HO2 := Lib.hid (HO1.out.call hbw); clear hbw)
                      | (go_at_call 32; with_reducible refine (HH2.out _ (HO2.out.call (new1 _ _)).own.rd).mono ?_; rintro r w4 ⟨rfl, rfl⟩)
                      | (go_at_call 30; with_reducible refine (HG.out _).mono ?_; rintro r w3 ⟨rfl, rfl⟩))
                    go_ret3
                    exact parR_no HX.out (by omega) (HB2.out.alloc _)
                  · have hks' : (k : Int) < s.size := by omega
                    have k1 : (k : Int) + 1 ≤ s.size := by omega
                    go_wp2_with (first
                      | (go_at_call 31; with_reducible refine (HU.out _).mono ?_; rintro r w2 ⟨rfl, hbw⟩; have HB1 := Lib.hid (HB0.out.call hbw); have HO1 := Lib.hid (HO0.out.call hbw); clear hbw)
                      | (go_at_call 31; with_reducible refine (HNM.out _).mono ?_; rintro r w2 ⟨rfl, hbw⟩; have HB2 := Lib.hid (HB1.out.call hbw); have HO2 := Lib.hid (HO1.out.call hbw); clear hbw)
                      | (go_at_call 32; with_reducible refine (HH2.out _ (HO2.out.call (new1 _ _)).own.rd).mono ?_; rintro r w4 ⟨rfl, rfl⟩)
                      | (go_at_call 30; with_reducible refine (HG.out _).mono ?_; rintro r w3 ⟨rfl, rfl⟩))
                    go_ret3
                    exact parR_no HX.out (by omega) (HB2.out.alloc _)
      · have t0 : (((s[p]'hps).toNat : Int) == 59) = false := by rw [beq_eq_false_iff_ne]; omega
        have HX : Hid (prs s.data.toList [] = (out, p, 0)) := Lib.hid (hq.out.trans (by rw [prs_end (by rw [at_first hps]; exact h0)]; rfl))
        have hr := ho.out.own
        clear hq
        go_wp2_with fail
        go_ret3
        rw [HX.out]
        exact ⟨av, cv, _, rfl, HCP.out, hr, hb.out.below⟩
    · have hps' : ¬ (p : Int) < s.size := by omega
      have HX : Hid (prs s.data.toList [] = (out, p, 0)) := Lib.hid (hq.out.trans (by rw [prs_end (by rw [at_none hps]; decide)]; rfl))
      have hr := ho.out.own
      clear hq
      go_wp2_with fail
      go_ret3
      rw [HX.out]
      exact ⟨av, cv, _, rfl, HCP.out, hr, hb.out.below⟩
theorem rparse_any (s : ByteArray) (hs : s.size ≤ 5000) (w : World) : Calls Tryz.prog 9 #[.string s] w (ParR w (prs s.data.toList [])) :=
  (rparse_own s hs w).mono (fun _ _ ⟨a, c, _, h1, h2, h3, h4⟩ => ⟨a, c, h1, h2, h3.rd, h4⟩)
end Go.Proofs.YtndbgdapojkfaaaGreatDoor.Par
