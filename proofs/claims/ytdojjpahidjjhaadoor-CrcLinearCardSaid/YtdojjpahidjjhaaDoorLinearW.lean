/- The walk of CrcLinear: it returns true; it writes nothing that was there. -/
import Derived.Test.YtdojjpahidjjhaaDoorBurstW
import Derived.Test.YtdojjpahidjjhaaDoorLinearP
import Derived.RegionTactic
import Derived.BigRegion
import Derived.ChangeAlike
import Derived.Deep.QuietTactic
import Derived.BigQuiet
import Derived.Deep.DeepCutAuto
namespace Go.Proofs.YtdojjpahidjjhaaDoor
set_option linter.unusedVariables false
open Go.RowKit Go.Deep

/-- Three blocks of the call's own, and what they hold. -/
def Three (w : World) (x y z : Nat) (lx ly lz : List UInt8) (wr : World) : Prop :=
  Buf wr x lx ∧ Buf wr y ly ∧ Buf wr z lz ∧ Below w.heap.size w wr ∧ (x ≠ y ∧ x ≠ z ∧ y ≠ z) ∧ w.heap.size ≤ x ∧ w.heap.size ≤ y ∧ w.heap.size ≤ z

theorem Tryd.info5 : (Tryd.prog.info? 5).map (fun i => (i.zero, i.size, i.bytes)) = some (some (.int .u8 0), 1, 1) := by kernel_rfl

theorem made_buf (w : World) (n : Nat) : Buf (w.alloc (.cells (madeCells #[.int .u8 0] n) 5)) w.heap.size (List.replicate n 0) := by
  refine ⟨[], (0, 0), by intro j _; simp, ?_⟩
  have h : madeCells #[.int .u8 0] n = (bv (List.replicate n 0) ++ []).toArray := by
    apply Array.toList_inj.1
    rw [toList_madeCells_one]
    simp [bv]
  rw [h]
  exact heap_alloc_new w _

theorem made_three (w : World) (n : Nat) : Buf (((w.alloc (.cells (madeCells #[.int .u8 0] n) 5)).alloc (.cells (madeCells #[.int .u8 0] n) 5)).alloc (.cells (madeCells #[.int .u8 0] n) 5)).drew w.heap.size (List.replicate n 0) ∧
    Buf (((w.alloc (.cells (madeCells #[.int .u8 0] n) 5)).alloc (.cells (madeCells #[.int .u8 0] n) 5)).alloc (.cells (madeCells #[.int .u8 0] n) 5)).drew (w.heap.size + 1) (List.replicate n 0) ∧
    Buf (((w.alloc (.cells (madeCells #[.int .u8 0] n) 5)).alloc (.cells (madeCells #[.int .u8 0] n) 5)).alloc (.cells (madeCells #[.int .u8 0] n) 5)).drew (w.heap.size + 1 + 1) (List.replicate n 0) ∧
    Below w.heap.size w (((w.alloc (.cells (madeCells #[.int .u8 0] n) 5)).alloc (.cells (madeCells #[.int .u8 0] n) 5)).alloc (.cells (madeCells #[.int .u8 0] n) 5)).drew := by
  have h0 := made_buf w n
  have h1 := made_buf (w.alloc (.cells (madeCells #[.int .u8 0] n) 5)) n
  have h2 := made_buf ((w.alloc (.cells (madeCells #[.int .u8 0] n) 5)).alloc (.cells (madeCells #[.int .u8 0] n) 5)) n
  generalize Obj.cells (madeCells #[.int .u8 0] n) 5 = o at *
  simp only [World.size_alloc] at h1 h2
  refine ⟨?_, ?_, ?_, ?_⟩
  · exact h0.below ((((Below.refl _ _).alloc (Nat.le_refl _) o).alloc (by simp) o).drew) (by simp)
  · exact h1.below (((Below.refl _ _).alloc (Nat.le_refl _) o).drew) (by simp)
  · exact h2.below ((Below.refl _ _).drew (B := w.heap.size + 1 + 1 + 1)) (by omega)
  · exact ((((Below.refl _ _).alloc (Nat.le_refl _) o).alloc (by simp) o).alloc (by simp; omega) o).drew

theorem bytes_at (s : ByteArray) (k : Nat) (h : k < s.size) : s.data.toList[k]? = some s[k] := by
  have h' : k < s.data.toList.length := by simpa using h
  rw [List.getElem?_eq_getElem h']
  rfl

theorem Buf.at_part {w : World} {g : Nat} {L : List UInt8} {j : Nat} (h : Buf w g (part L j)) (k : Nat) (hk : k < L.length) : ∃ v0 : UInt8, w.cell? ⟨g, k, none⟩ = some (.int .u8 v0.toNat) ∧ w.frozen? ⟨g, k, none⟩ = false :=
  ⟨_, h.cell (by rw [part_length]; exact hk), h.live (by rw [part_length]; exact hk)⟩
theorem Buf.cell_of {w : World} {g k : Nat} {l : List UInt8} {v : UInt8} (h : Buf w g l) (e : l[k]? = some v) : w.cell? ⟨g, k, none⟩ = some (.int .u8 v.toNat) := by
  obtain ⟨hk, rfl⟩ := List.getElem?_eq_some_iff.1 e
  exact h.cell hk

theorem Three.set_x {w : World} {x y z : Nat} {X ly lz : List UInt8} {wr : World} {k : Nat} {v : UInt8} (h : Three w x y z (part X k) ly lz wr) (e : X[k]? = some v) :
    Three w x y z (part X (k + 1)) ly lz (wr.setCell ⟨x, k, none⟩ (.int .u8 v.toNat)) := by
  obtain ⟨h1, h2, h3, h4, h5, h6, h7, h8⟩ := h
  have hk : k < (part X k).length := by rw [part_length]; exact (List.getElem?_eq_some_iff.1 e).1
  exact ⟨by rw [← part_set e]; exact h1.set hk v, h2.other h5.1 _ _, h3.other h5.2.1 _ _, h4.setCell h6 _, h5, h6, h7, h8⟩
theorem Three.set_y {w : World} {x y z : Nat} {lx Y lz : List UInt8} {wr : World} {k : Nat} {v : UInt8} (h : Three w x y z lx (part Y k) lz wr) (e : Y[k]? = some v) :
    Three w x y z lx (part Y (k + 1)) lz (wr.setCell ⟨y, k, none⟩ (.int .u8 v.toNat)) := by
  obtain ⟨h1, h2, h3, h4, h5, h6, h7, h8⟩ := h
  have hk : k < (part Y k).length := by rw [part_length]; exact (List.getElem?_eq_some_iff.1 e).1
  exact ⟨h1.other (Ne.symm h5.1) _ _, by rw [← part_set e]; exact h2.set hk v, h3.other h5.2.2 _ _, h4.setCell h7 _, h5, h6, h7, h8⟩
theorem Three.set_z {w : World} {x y z : Nat} {lx ly Z : List UInt8} {wr : World} {k : Nat} {v : UInt8} (h : Three w x y z lx ly (part Z k) wr) (e : Z[k]? = some v) :
    Three w x y z lx ly (part Z (k + 1)) (wr.setCell ⟨z, k, none⟩ (.int .u8 v.toNat)) := by
  obtain ⟨h1, h2, h3, h4, h5, h6, h7, h8⟩ := h
  have hk : k < (part Z k).length := by rw [part_length]; exact (List.getElem?_eq_some_iff.1 e).1
  exact ⟨h1.other (Ne.symm h5.2.1) _ _, h2.other (Ne.symm h5.2.2) _ _, by rw [← part_set e]; exact h3.set hk v, h4.setCell h8 _, h5, h6, h7, h8⟩
theorem Three.drew {w : World} {x y z : Nat} {lx ly lz : List UInt8} {wr : World} (h : Three w x y z lx ly lz wr) : Three w x y z lx ly lz wr.drew := by
  obtain ⟨h1, h2, h3, h4, h5⟩ := h
  exact ⟨h1, h2, h3, h4.drew, h5⟩

theorem xor_three (p q r : UInt8) : bits .xor .u8 (bits .xor .u8 (p.toNat : Int) (q.toNat : Int)) (r.toNat : Int) = ((p ^^^ q ^^^ r).toNat : Int) := by
  rw [u8_xor_nat _ _ p.toNat_lt q.toNat_lt, ← UInt8.toNat_xor, u8_xor_nat _ _ (UInt8.toNat_lt _) r.toNat_lt, ← UInt8.toNat_xor]

theorem below_n {w wr : World} {B : Nat} (h : Below B w wr) : ∀ n, Below B w (wr.drewN n) := by
  intro n
  induction n with
  | zero => exact h
  | succ n ih => exact ih.drew

theorem conv_n {w : World} {g cap m : Nat} {l : List UInt8} (h : Buf w g l) (hl : l.length = m) (n : Nat) : (convert 31 9 (.slice (some ⟨g, 0, none⟩) m cap)).run Tryd.prog (w.drewN n) = .ok (.string ⟨l.toArray⟩) (w.drewN n) := by
  subst hl
  exact conv_back (h.below (below_n (Below.refl w.heap.size w) n) h.lt)

theorem tab_n {w : World} (h : Tab w) (n : Nat) : Tab (w.drewN n) := h.below (below_n (Below.refl 1 w) n) (by omega)

theorem sum_n (l : List UInt8) (w : World) (n : Nat) (hl : l.length ≤ 200) (hT : Tab w) :
    Calls Tryd.prog 9 #[.string ⟨l.toArray⟩] (w.drewN n) fun r w' => r = .returned (.int .u32 (uv (goL 0#32 l))) ∧ w.drewN n = w' :=
  sum_mk l _ (by rw [size_mk]; unfold maxLen; omega) (tab_n hT n)
theorem awake_n (w : World) (n : Nat) (hT : Tab w) : Calls Tryd.prog 8 #[] (w.drewN n) fun r w' => r = .returned (.bool true) ∧ w.drewN n = w' := awake_any _ (tab_n hT n)

theorem quiet_left {P : Program} {f : FuncId} {args : Array Value} {w : World} {n : Nat} {v : Value}
    (h : Calls P f args (w.drewN n) fun e w' => e = .returned v ∧ w.drewN n = w') : Calls P f args (w.drewN n) fun e w'' => e = .returned v ∧ ∃ m, w'' = w.drewN m :=
  h.mono fun _ _ ⟨he, hm⟩ => ⟨he, n, hm.symm⟩

set_option maxHeartbeats 2000000 in
theorem walk_linear (a b c : ByteArray) (w : World) (ha : a.size ≤ 200) (hb : b.size ≤ maxLen) (hc : c.size ≤ maxLen) (hT : Tab w) (hz : 0 < w.heap.size) :
    Calls Tryd.prog 7 #[.string a, .string b, .string c] w fun r w' => r = .returned (.bool true) ∧ Below w.heap.size w w' := by
  have HT := Lib.hid hT
  clear hT
  unfold maxLen at hb hc
  have hmk := fun W => run_make_row' (P := Tryd.prog) 31 5 (.int .u8 0) 1 Tryd.underlying31 Tryd.info5 rfl .i64 .i64 a.size (by omega) (by omega) W
  go_enter Tryd.func7, Tryd.ntmps7
  go_upto_region 3 with fail
  go_cut [7, 8, 9] (fun s7 s8 s9 wx => ∃ x y z : Nat, s7 = .slice (some ⟨x, 0, none⟩) a.size a.size ∧ s8 = .slice (some ⟨y, 0, none⟩) a.size a.size ∧ s9 = .slice (some ⟨z, 0, none⟩) a.size a.size ∧ Three w x y z (List.replicate a.size 0) (List.replicate a.size 0) (List.replicate a.size 0) wx)
  case first =>
    go_region
    all_goals go_wp2_with fail
    all_goals go_meet
    all_goals
      obtain ⟨m0, m1, m2, mb⟩ := made_three w a.size
      exact ⟨_, _, _, rfl, rfl, rfl, by assumption, by assumption, by assumption, mb, ⟨by omega, by omega, by omega⟩, by omega, by omega, by omega⟩
  case rest =>
    obtain ⟨x, y, z, rfl, rfl, rfl, h3⟩ := hcut
    have hx : (pad a.size b.data.toList).length = a.data.toList.length := by rw [pad_length]; simp
    have hy : (pad a.size c.data.toList).length = a.data.toList.length := by rw [pad_length]; simp
    have K0 : Hid (Three w x y z (part (pad a.size b.data.toList) 0) (part (pad a.size c.data.toList) 0) (part (xor3 a.data.toList (pad a.size b.data.toList) (pad a.size c.data.toList)) 0) wc) := by
      rw [part_zero, part_zero, part_zero, xor3_length hx hy, pad_length, pad_length, show a.data.toList.length = a.size by simp]
      exact Lib.hid h3
    have HX := Lib.hid hx
    have HY := Lib.hid hy
    clear h3 hx hy hmk
    go_wp2_with fail
    go_loopw [10] (fun i wr => ∃ k : Nat, k ≤ a.size ∧ i = .int .i64 k ∧ Hid (Three w x y z (part (pad a.size b.data.toList) k) (part (pad a.size c.data.toList) k) (part (xor3 a.data.toList (pad a.size b.data.toList) (pad a.size c.data.toList)) k) wr)) (fun i _ => a.size - (intOf i).toNat)
    case atStart => exact ⟨0, by omega, rfl, K0⟩
    case round =>
      obtain ⟨k, hk, rfl, HK⟩ := hrel
      clear K0
      by_cases hlt : k < a.size
      · go_upto_if 33 with fail
        go_cut [] (fun wx => Hid (Three w x y z (part (pad a.size b.data.toList) (k + 1)) (part (pad a.size c.data.toList) k) (part (xor3 a.data.toList (pad a.size b.data.toList) (pad a.size c.data.toList)) k) wx))
        case first =>
          by_cases hin : k < b.size
          · obtain ⟨v0, hc0, hf0⟩ := HK.out.1.at_part k (by rw [pad_length]; exact hlt)
            go_wp2_with fail
            go_meet
            exact Lib.hid (HK.out.set_x (pad_in hlt (bytes_at b k hin)))
          · go_wp2_with fail
            go_meet
            have e := part_same (pad_out (l := b.data.toList) hlt (by simp; omega))
            exact Lib.hid (by rw [← e]; exact HK.out)
        case rest =>
          have HK := hcut
          clear hcut
          go_upto_if 43 with fail
          go_cut [] (fun wx => Hid (Three w x y z (part (pad a.size b.data.toList) (k + 1)) (part (pad a.size c.data.toList) (k + 1)) (part (xor3 a.data.toList (pad a.size b.data.toList) (pad a.size c.data.toList)) k) wx))
          case first =>
            by_cases hin : k < c.size
            · obtain ⟨v0, hc0, hf0⟩ := HK.out.2.1.at_part k (by rw [pad_length]; exact hlt)
              go_wp2_with fail
              go_meet
              exact Lib.hid (HK.out.set_y (pad_in hlt (bytes_at c k hin)))
            · go_wp2_with fail
              go_meet
              have e := part_same (pad_out (l := c.data.toList) hlt (by simp; omega))
              exact Lib.hid (by rw [← e]; exact HK.out)
          case rest =>
            have HK := hcut
            clear hcut
            obtain ⟨vx, ex⟩ : ∃ v, (pad a.size b.data.toList)[k]? = some v := ⟨_, List.getElem?_eq_getElem (by rw [pad_length]; exact hlt)⟩
            obtain ⟨vy, ey⟩ : ∃ v, (pad a.size c.data.toList)[k]? = some v := ⟨_, List.getElem?_eq_getElem (by rw [pad_length]; exact hlt)⟩
            have ez := xor3_at (bytes_at a k hlt) ex ey
            have hcx := HK.out.1.cell_of (part_at ex)
            have hcy := HK.out.2.1.cell_of (part_at ey)
            obtain ⟨v0, hc0, hf0⟩ := HK.out.2.2.1.at_part k (by rw [xor3_length HX.out HY.out]; simpa using hlt)
            have EZ := Lib.hid ez
            clear ex ey ez
            go_wp2_with fail
            go_region
            go_wp2_with fail
            go_roundw
            case rel =>
              refine ⟨k + 1, by omega, by go_num, Lib.hid ?_⟩
              rw [xor_three]
              exact (HK.out.set_z EZ.out).drew
            case measure => simp [intOf]; omega
      · obtain rfl : k = a.size := by omega
        have h3 := HK.out
        have lx := HX.out
        have ly := HY.out
        have lz := xor3_length lx ly
        have gz := goL_xor3 lx ly
        have la : a.data.toList.length = a.size := by simp
        rw [la] at lx ly lz
        have px := part_all (pad a.size b.data.toList)
        have py := part_all (pad a.size c.data.toList)
        have pz := part_all (xor3 a.data.toList (pad a.size b.data.toList) (pad a.size c.data.toList))
        rw [lx] at px
        rw [ly] at py
        rw [lz] at pz
        rw [px, py, pz] at h3
        generalize xor3 a.data.toList (pad a.size b.data.toList) (pad a.size c.data.toList) = Z at *
        generalize pad a.size b.data.toList = X at *
        generalize pad a.size c.data.toList = Y at *
        clear px py pz HK HX HY
        obtain ⟨bx, cy, dz, hbel, _⟩ := h3
        have hTr := HT.out.below hbel hz
        have hvx := fun n => conv_n (cap := a.size) bx lx n
        have hvy := fun n => conv_n (cap := a.size) cy ly n
        have hvz := fun n => conv_n (cap := a.size) dz lz n
        have HBel := Lib.hid hbel
        have CA := Lib.hid fun n => sum_n a.data.toList wr n (by rw [la]; omega) hTr
        have CX := Lib.hid fun n => sum_n X wr n (by rw [lx]; omega) hTr
        have CY := Lib.hid fun n => sum_n Y wr n (by rw [ly]; omega) hTr
        have CZ := Lib.hid fun n => sum_n Z wr n (by rw [lz]; omega) hTr
        have CW := Lib.hid fun n => awake_n wr n hTr
        rw [gz] at CZ
        generalize goL 0#32 a.data.toList = gA at *
        generalize goL 0#32 X = gX at *
        generalize goL 0#32 Y = gY at *
        have e1 := xor_uv gA gX
        generalize gA ^^^ gX = p1 at *
        have e2 := xor_uv p1 gY
        generalize p1 ^^^ gY = q1 at *
        clear bx cy dz hbel hTr lx ly lz la gz
        go_wp2_with fail
        go_quiet (first
          | (go_at_call 9; with_reducible exact quiet_left (CZ.out _))
          | (go_at_call 9; with_reducible exact quiet_left (CA.out _))
          | (go_at_call 9; with_reducible exact quiet_left (CX.out _))
          | (go_at_call 9; with_reducible exact quiet_left (CY.out _))
          | (go_at_call 8; with_reducible exact quiet_left (CW.out _)))
        go_wp2_with fail
        go_ret
        exact ⟨rfl, below_n HBel.out _⟩

theorem walk_linear_out (a b c : ByteArray) (w : World) (ha : a.size ≤ maxLen) (h : 200 < a.size) (hT : Tab w) :
    Calls Tryd.prog 7 #[.string a, .string b, .string c] w fun r w' => r = .returned (.bool true) ∧ w = w' := by
  have HT := Lib.hid hT
  clear hT
  unfold maxLen at ha
  go_enter Tryd.func7, Tryd.ntmps7
  go_wp2_with (go_at_call 8; (with_reducible refine (awake_any _ HT.out).mono ?_); rintro e w' ⟨rfl, rfl⟩)
  go_ret
  exact ⟨rfl, rfl⟩

theorem walk_linear_any (a b c : ByteArray) (w : World) (ha : a.size ≤ maxLen) (hb : b.size ≤ maxLen) (hc : c.size ≤ maxLen) (hT : Tab w) (hz : 0 < w.heap.size) :
    Calls Tryd.prog 7 #[.string a, .string b, .string c] w fun r w' => r = .returned (.bool true) ∧ Below w.heap.size w w' := by
  by_cases h : 200 < a.size
  · exact (walk_linear_out a b c w ha h hT).mono fun e w' ⟨he, hw⟩ => ⟨he, hw ▸ Below.refl _ _⟩
  · exact walk_linear a b c w (by omega) hb hc hT hz

end Go.Proofs.YtdojjpahidjjhaaDoor
