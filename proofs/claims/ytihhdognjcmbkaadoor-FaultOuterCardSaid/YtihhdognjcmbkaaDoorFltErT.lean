/- The texts of numbers, and of faults: they are not empty. -/
import Derived.Test.YtihhdognjcmbkaaDoorFltPla
import Derived.Test.YtihhdognjcmbkaaDoorShelf
import Derived.Lib.ItoaLen
import Derived.Laws.BytesArg
import Derived.Laws.IdiomStrings
import Derived.Laws.Rows
import Derived.Deep.OwnRows
namespace Go.Proofs.YtihhdognjcmbkaaDoor.Flt
open Go.RowKit

/-- The library's table of powers of ten lies there. -/
def PTab (w : World) : Prop := Lib.TabIs Tryd.prog w "internal/strconv.uint64pow10" .u64 Lib.pow10Tab
theorem gPow : Tryd.prog.globalNamed "internal/strconv.uint64pow10" = some 1 := by kernel_rfl
theorem PTab.call {w w' : World} (h : PTab w) (hb : Below w.heap.size w w') : PTab w' := by
  unfold PTab Lib.TabIs World.var? at h ⊢
  rw [gPow] at h ⊢
  simp only [Option.bind_some] at h ⊢
  have hlt : 1 < w.heap.size := by
    rcases Nat.lt_or_ge 1 w.heap.size with h' | h'
    · exact h'
    · rw [Array.getElem?_eq_none h'] at h; cases h
  rw [hb.block 1 hlt]
  exact h
theorem grow_below (w : World) (k : Nat) (os : Array Obj) : Below w.heap.size w (Sort.grow (w.drewN k) os) :=
  (Joins.below_draws w.heap.size w k).trans ⟨rfl, rfl, rfl, by simp [Sort.grow], fun j hj => by
    show ((w.drewN k).heap ++ os)[j]? = _
    rw [Array.getElem?_append_left (show j < (w.drewN k).heap.size from hj)]⟩
theorem size_mk (l : List UInt8) : (ByteArray.mk l.toArray).size = l.length := by show l.toArray.size = _; simp
theorem itoa_any (n : Int) (h0 : -85899345920 ≤ n) (h1 : n ≤ 85899345920) (w : World) (hT : PTab w) : Calls Tryd.prog 33 #[.int .i64 n] w fun r w' => ∃ s : ByteArray, r = .returned (.string s) ∧ s.size ≤ 21 ∧ Below w.heap.size w w' := by
  refine (shItoa n (by omega) (by omega) w hT).mono ?_
  rintro e w' ⟨rfl, k, os, rfl⟩
  exact ⟨_, rfl, by rw [size_mk]; exact Lib.itoa_length_le n (by omega) (by omega), grow_below _ _ _⟩

/-- A number's last digits that are still to be told, and the place of the one told last. -/
def Ok (i : Nat) (n : Int) : Prop := 0 ≤ n ∧ n ≤ 32767 ∧ ((i = 20 ∧ 1 ≤ n) ∨ (i = 19 ∧ n ≤ 3276) ∨ (i = 18 ∧ n ≤ 327) ∨ (i = 17 ∧ n ≤ 32) ∨ (i = 16 ∧ n ≤ 3) ∨ (i = 15 ∧ n = 0))
theorem Ok.step {i : Nat} {n : Int} (h : Ok i n) (hn : 0 < n) : 16 ≤ i ∧ i ≤ 20 ∧ n ≤ 32767 ∧ Ok (i - 1) (n / 10) := by
  obtain ⟨h0, h1, h2⟩ := h
  unfold Ok
  omega
theorem Ok.end {i : Nat} (h : Ok i 0) : 15 ≤ i ∧ i ≤ 19 := by
  obtain ⟨h0, h1, h2⟩ := h
  omega
/-- Bytes as cells. -/
def bv (l : List UInt8) : List Value := l.map fun b => Value.int .u8 b.toNat
theorem bv_len (l : List UInt8) : (bv l).length = l.length := by simp [bv]
/-- Twenty digits' room. -/
structure Dg (w wr : World) (l : List UInt8) : Prop where
  bl : Bl w wr
  len : l.length = 20
  v : Blk wr w.heap.size 82 (bv l)
theorem Dg.new (w : World) : Dg w (w.alloc (.cells #[.int .u8 0, .int .u8 0, .int .u8 0, .int .u8 0, .int .u8 0, .int .u8 0, .int .u8 0, .int .u8 0, .int .u8 0, .int .u8 0, .int .u8 0, .int .u8 0, .int .u8 0, .int .u8 0, .int .u8 0, .int .u8 0, .int .u8 0, .int .u8 0, .int .u8 0, .int .u8 0] 82)) (List.replicate 20 0) := ⟨(Bl.refl w).call (new1 _ _), by simp, Blk.new w 82 (bv (List.replicate 20 0)).toArray⟩
theorem Dg.set_ {w wr : World} {l : List UInt8} (h : Dg w wr l) (i : Nat) (z : Int) (z0 : 0 ≤ z) (z1 : z ≤ 255) : Dg w (wr.setCell ⟨w.heap.size, i, none⟩ (.int .u8 z)) (l.set i (UInt8.ofNat z.toNat)) := by
  have hz : Value.int .u8 ((UInt8.ofNat z.toNat).toNat : Int) = .int .u8 z := by
    congr 1
    rw [UInt8.toNat_ofNat']
    omega
  refine ⟨⟨h.bl.below.setCell (p := ⟨w.heap.size, i, none⟩) (by simp) _, by simpa using h.bl.le⟩, by simpa using h.len, ?_⟩
  have := h.v.set_ i (.int .u8 z)
  rw [← hz] at this ⊢
  have e : bv (l.set i (UInt8.ofNat z.toNat)) = (bv l).set i (Value.int .u8 (UInt8.ofNat z.toNat).toNat) := by simp [bv, List.map_set]
  rw [e]
  exact this
/-- The room's end, made into a text. -/
theorem conv_tail {w wr : World} {l : List UInt8} (h : Dg w wr l) (j cap n : Nat) (hn : n = 20 - j) : (convert 83 9 (.slice (some ⟨w.heap.size, j, none⟩) n cap)).run Tryd.prog wr = .ok (.string ⟨(l.drop j).toArray⟩) wr := by
  have hl : (l.drop j).length = n := by rw [List.length_drop, h.len]; omega
  rw [← hl]
  exact run_convert_bytes_back wr 83 9 5 ⟨w.heap.size, j, none⟩ cap (l.drop j) Tryd.underlying83 Tryd.underlying5 Tryd.underlying9 (fun k hk => by
    have e : (⟨w.heap.size, j, none⟩ : Addr).add k = ⟨w.heap.size, j + k, none⟩ := by by_cases h0 : k = 0 <;> simp [Addr.add, h0]
    have hk2 : j + k < l.length := by rw [List.length_drop] at hk; omega
    rw [e, h.v.cell (by rw [bv_len]; exact hk2)]
    simp [bv])

set_option maxRecDepth 20000 in
/-- The room's end, as a slice. -/
theorem tail_at (g j : Nat) (hj : j ≤ 19) (W : World) : (Instr.sliceAt 82 (.pointer (some ⟨g, 0, none⟩)) (some (.int .i64 (j : Int))) none none).run Tryd.prog W = .ok (.slice (some ⟨g, j, none⟩) (20 - j) (20 - j)) W := by
  have ha : Tryd.prog.arrayLen 82 = 20 := by kernel_rfl
  have he : Tryd.prog.elem 82 = 5 := by kernel_rfl
  have hs : (sizeOf 5).run Tryd.prog W = .ok 1 W := by kernel_rfl
  rw [run_sliceAt_array_l W 82 ⟨g, 0, none⟩ Tryd.underlying82 .i64 j (by omega) (by rw [ha]; omega), he, hs, ha]
  have e : (⟨g, 0, none⟩ : Addr).add j = ⟨g, j, none⟩ := by by_cases h0 : j = 0 <;> simp [Addr.add, h0]
  show Result.ok (slicedAt _ _ _ _ _) W = _
  unfold slicedAt
  rw [Int.toNat_natCast, if_neg (by omega), Nat.mul_one, e]

theorem etext_low (e : Int) (he : e ≤ 0) (w : World) : Calls Tryd.prog 32 #[.int .i64 e] w fun r w' => ∃ s : ByteArray, r = .returned (.string s) ∧ s.size ≤ 40 ∧ Below w.heap.size w w' := by
  go_enter Tryd.func32, Tryd.ntmps32
  go_wp2
  go_ret
  exact ⟨_, rfl, by decide, Below.refl _ _⟩
set_option maxRecDepth 20000 in
theorem etext_high (e : Int) (h0 : 0 < e) (h1 : e ≤ 32767) (w : World) : Calls Tryd.prog 32 #[.int .i64 e] w fun r w' => ∃ s : ByteArray, r = .returned (.string s) ∧ s.size ≤ 40 ∧ Below w.heap.size w w' := by
  have HD := Lib.hid (Dg.new w)
  have HO := Lib.hid (show Ok 20 e from ⟨by omega, by omega, .inl ⟨rfl, by omega⟩⟩)
  go_enter Tryd.func32, Tryd.ntmps32
  go_wp2_with fail
  go_loopw [3, 5] (fun n i wr => ∃ (z : Int) (j : Nat) (l : List UInt8), n = .int .i64 z ∧ i = .int .i64 (j : Int) ∧ Hid (Ok j z) ∧ Hid (Dg w wr l)) (fun n _ _ => (intOf n).toNat)
  case atStart => exact ⟨e, 20, _, rfl, rfl, HO, HD⟩
  case round =>
    obtain ⟨z, j, l, rfl, rfl, ho, hd⟩ := hrel
    rcases Int.lt_or_le 0 z with hz | hz
    · obtain ⟨j0, j1, z1, ho2⟩ := ho.out.step hz
      obtain ⟨k, rfl⟩ : ∃ k, j = k + 1 := ⟨j - 1, by omega⟩
      have HO2 := Lib.hid ho2
      have f0 := hd.out.v.frozen k
      obtain ⟨x, c0⟩ : ∃ x, wr.cell? ⟨w.heap.size, k, none⟩ = some x := ⟨_, hd.out.v.cell (i := k) (by rw [bv_len, hd.out.len]; omega)⟩
      have HD2 := Lib.hid (hd.out.set_ k (48 + z % 10) (by omega) (by omega))
      clear ho2
      go_wp2_with fail
      go_roundw
      case rel => exact ⟨z / 10, k, _, rfl, rfl, HO2, HD2⟩
      case measure => simp [intOf]; omega
    · obtain rfl : z = 0 := by have := ho.out.1; omega
      obtain ⟨j0, j1⟩ := ho.out.end
      have hsl := tail_at w.heap.size j j1 wr
      have hcv := conv_tail hd.out j (20 - j) (20 - j) rfl
      have hl : (ByteArray.mk (l.drop j).toArray).size ≤ 20 := by rw [size_mk, List.length_drop, hd.out.len]; omega
      generalize ByteArray.mk (l.drop j).toArray = s at *
      go_wp2_with fail
      go_ret
      exact ⟨_, rfl, by rw [ByteArray.size_append]; show 6 + s.size ≤ 40; omega, hd.out.bl.below⟩
theorem etext_any (e : Int) (h1 : e ≤ 32767) (w : World) : Calls Tryd.prog 32 #[.int .i64 e] w fun r w' => ∃ s : ByteArray, r = .returned (.string s) ∧ s.size ≤ 40 ∧ Below w.heap.size w w' := by
  rcases Int.lt_or_le 0 e with h | h
  · exact etext_high e h h1 w
  · exact etext_low e h w
/-- What a fault tells is not empty. -/
theorem error_any (e : Int) (b : Nat) (l : List Int) (h1 : e ≤ 32767) (hs : Sm l) (w : World) (hE : ETab w) (hP : PTab w) (h : Ch w e (FV b) l) : Calls Tryd.prog 20 #[.pointer (some ⟨b, 0, none⟩)] w fun r w' => ∃ s : ByteArray, r = .returned (.string s) ∧ 1 ≤ s.size ∧ Below w.heap.size w w' := by
  have hn : l ≠ [] := by rintro rfl; cases h
  have HC := Lib.hid h
  have HE := Lib.hid hE
  have HP := Lib.hid hP
  have H1 := Lib.hid (fun W a hc => code_any e (FV b) l W a (.some b l hc))
  rw [if_neg hn] at H1
  have H2 := Lib.hid (fun W => etext_any e h1 W)
  have H3 := Lib.hid (fun W a hc => place_any e (FV b) l W a (.some b l hc) hs)
  obtain ⟨q0, q1, -⟩ := hs.part (p := l) (q := []) (by simp)
  have H4 := Lib.hid (fun W a => itoa_any l.sum q0 q1 W a)
  clear h hE hP hn hs q0 q1
  generalize l.sum = n at *
  unfold FV at H1 H3 HC
  go_enter Tryd.func20, Tryd.ntmps20
  go_wp2_with (first
    | (go_at_call 10; with_reducible refine (H1.out _ HE.out HC.out).mono ?_; rintro r w1 ⟨rfl, hb⟩; have C1 := Lib.hid (HC.out.call hb); have B1 := Lib.hid ((Bl.refl w).call hb); clear hb)
    | (go_at_call 32; with_reducible refine (H2.out _).mono ?_; rintro r w2 ⟨s, rfl, hz, hb⟩; have C2 := Lib.hid (C1.out.call hb); have B2 := Lib.hid (B1.out.call hb); clear hb)
    | (go_at_call 12; with_reducible refine (H3.out _ (B2.out.tab HE.out) C2.out).mono ?_; rintro r w3 ⟨rfl, hb⟩; have B3 := Lib.hid (B2.out.call hb); clear hb)
    | (go_at_call 33; with_reducible refine (H4.out _ (HP.out.call B3.out.below)).mono ?_; rintro r w4 ⟨t, rfl, ht, hb⟩; have B4 := Lib.hid (B3.out.call hb); clear hb))
  go_ret
  exact ⟨_, rfl, by rw [ByteArray.size_append, ByteArray.size_append]; show 1 ≤ s.size + 4 + t.size; omega, B4.out.below⟩
end Go.Proofs.YtihhdognjcmbkaaDoor.Flt
