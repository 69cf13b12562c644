/- Contracts of the document's text and two: a number's digits. -/
import Derived.Test.YtmbbjpfhdijmbaaDoorSpnNext
import Derived.Laws.BytesArg
import Derived.Laws.IdiomStrings
import Derived.Laws.MakeOwn
import Derived.Deep.OwnRows
import Derived.Laws.Rows
import Derived.WalkSpells
import Derived.Deep.RegionHeld3
import Derived.Deep.DeepCutAuto
import Derived.RegionTactic
import Derived.BigRegion
namespace Go.Proofs.YtmbbjpfhdijmbaaDoor.Spn
open Go.RowKit Go.Deep

/-- Block g is just these cells of element type t, none frozen. -/
def Blk (w : World) (g : Nat) (t : TypeId) (vs : List Value) : Prop := w.heap[g]? = some (.cells vs.toArray t (0, 0))
theorem Blk.cell {w : World} {g : Nat} {t : TypeId} {vs : List Value} (h : Blk w g t vs) {i : Nat} (hi : i < vs.length) : w.cell? ⟨g, i, none⟩ = some vs[i] := by
  rw [cell_of_row w g i _ t _ h]; simp [hi]
theorem Blk.new (w : World) (t : TypeId) (vs : Array Value) : Blk (w.alloc (.cells vs t)) w.heap.size t vs.toList := by unfold Blk; rw [heap_alloc_new]
theorem Blk.lt {w : World} {g : Nat} {t : TypeId} {vs : List Value} (h : Blk w g t vs) : g < w.heap.size := by
  rcases Nat.lt_or_ge g w.heap.size with h' | h'
  · exact h'
  · unfold Blk at h; rw [Array.getElem?_eq_none h'] at h; cases h
theorem Blk.call {w w1 : World} {g : Nat} {t : TypeId} {vs : List Value} (h : Blk w g t vs) (hb : Below w.heap.size w w1) : Blk w1 g t vs := by
  have := h.lt
  unfold Blk at h ⊢
  rw [hb.block g this]
  exact h
theorem new1 (w : World) (o : Obj) : Below w.heap.size w (w.alloc o) := (Below.refl _ _).alloc (Nat.le_refl _) _
/-- Bytes as cells. -/
def bv (l : List UInt8) : List Value := l.map fun b => Value.int .u8 b.toNat
theorem bv_len (l : List UInt8) : (bv l).length = l.length := by simp [bv]
/-- Bytes of a block, made into a text. -/
theorem conv_back {w : World} {g cap : Nat} {l : List UInt8} {rest : List Value} (h : Blk w g 5 (bv l ++ rest)) : (convert 59 9 (.slice (some ⟨g, 0, none⟩) l.length cap)).run Tryd.prog w = .ok (.string ⟨l.toArray⟩) w :=
  run_convert_bytes_back w 59 9 5 ⟨g, 0, none⟩ cap l Tryd.underlying59 Tryd.underlying5 Tryd.underlying9 (fun j hj => by
    have e : (⟨g, 0, none⟩ : Addr).add j = ⟨g, j, none⟩ := by by_cases h0 : j = 0 <;> simp [Addr.add, h0]
    rw [e, h.cell (by rw [List.length_append, bv_len]; omega), List.getElem_append_left (by rw [bv_len]; exact hj)]
    simp [bv])
theorem conv_one {z : Int} {b : UInt8} (hz : (b.toNat : Int) = z) (W : World) : (convert 59 9 (.slice (some ⟨W.heap.size, 0, none⟩) 1 1)).run Tryd.prog (W.alloc (.cells #[.int .u8 z] 5)) = .ok (.string ⟨#[b]⟩) (W.alloc (.cells #[.int .u8 z] 5)) :=
  conv_back (l := [b]) (rest := []) (by
    have := Blk.new W 5 #[.int .u8 z]
    rw [← hz] at this ⊢
    exact this)
theorem conv_two {x y : Int} {a b : UInt8} (hx : (a.toNat : Int) = x) (hy : (b.toNat : Int) = y) (W : World) : (convert 59 9 (.slice (some ⟨W.heap.size, 0, none⟩) 2 2)).run Tryd.prog (W.alloc (.cells #[.int .u8 x, .int .u8 y] 5)) = .ok (.string ⟨#[a, b]⟩) (W.alloc (.cells #[.int .u8 x, .int .u8 y] 5)) :=
  conv_back (l := [a, b]) (rest := []) (by
    have := Blk.new W 5 #[.int .u8 x, .int .u8 y]
    rw [← hx, ← hy] at this ⊢
    exact this)

theorem conv_drew {z : Int} {b : UInt8} (hz : (b.toNat : Int) = z) (W : World) : (convert 59 9 (.slice (some ⟨W.heap.size, 0, none⟩) 1 1)).run Tryd.prog (W.alloc (.cells #[.int .u8 z] 5)).drew = .ok (.string ⟨#[b]⟩) (W.alloc (.cells #[.int .u8 z] 5)).drew :=
  conv_back (l := [b]) (rest := []) (by
    have := Blk.new W 5 #[.int .u8 z]
    rw [← hz] at this ⊢
    exact this)
theorem conv_past {z : Int} {b : UInt8} {w1 w2 : World} {g : Nat} (hz : (b.toNat : Int) = z) (h : Blk w1 g 5 [.int .u8 z]) (hb : Below w1.heap.size w1 w2) :
    (convert 59 9 (.slice (some ⟨g, 0, none⟩) 1 1)).run Tryd.prog w2 = .ok (.string ⟨#[b]⟩) w2 :=
  conv_back (l := [b]) (rest := []) (by
    have := h.call hb
    rw [← hz] at this
    exact this)

theorem wy1 {w w2 : World} (hb : Below w.drew.heap.size w.drew w2) (o : Obj) : Below w.heap.size w (w2.alloc o) :=
  ((Below.refl w.heap.size w).drew.trans (hb.mono (Nat.le_refl _))).alloc (by have := hb.size; exact this) o
theorem wy2 {w w2 : World} {o : Obj} (hb : Below (w.alloc o).drew.heap.size (w.alloc o).drew w2) : Below w.heap.size w w2 :=
  ((new1 w o).drew).trans (hb.mono (by show w.heap.size ≤ (w.alloc o).heap.size; simp))

theorem dec_step {n : Int} (h : 10 ≤ n) : dec n = dec (n / 10) ++ [dgt n] := by
  unfold dec dgt
  rw [Lib.decDigits, dif_neg (by omega), show (n / 10).toNat = n.toNat / 10 by omega, show (n % 10).toNat = n.toNat % 10 by omega]
theorem dgt_small {n : Int} (h0 : 0 ≤ n) (h1 : n < 10) : ((dgt n).toNat : Int) = 48 + n := by rw [dgt_nat]; omega

theorem rtext_base (n : Int) (h0 : 0 ≤ n) (h1 : n < 10) (w : World) :
    Calls Tryd.prog 26 #[.int .i64 n] w fun r w' => r = .returned (.string ⟨(dec n).toArray⟩) ∧ Below w.heap.size w w' := by
  rw [dec_one h0 h1]
  have hcv := conv_one (dgt_small h0 h1)
  generalize dgt n = b at *
  go_enter Tryd.func26, Tryd.ntmps26
  go_wp2_with fail
  go_ret
  exact ⟨rfl, new1 _ _⟩
theorem rtext_step (n : Int) (h0 : 10 ≤ n) (h1 : n ≤ 999999) (HT : Hid (∀ W, Calls Tryd.prog 26 #[.int .i64 (n / 10)] W fun r w' => r = .returned (.string ⟨(dec (n / 10)).toArray⟩) ∧ Below W.heap.size W w')) (w : World) :
    Calls Tryd.prog 26 #[.int .i64 n] w fun r w' => r = .returned (.string ⟨(dec n).toArray⟩) ∧ Below w.heap.size w w' := by
  rw [dec_step h0, ← mk_one]
  have hz := dec_len (n := n / 10) (by omega) (by omega)
  rw [← size_mk] at hz
  have hz := hz.2
  generalize ByteArray.mk (dec (n / 10)).toArray = t at *
  have e1 : IntKind.i64.wrap (n.tdiv 10) = n / 10 := by rw [Int.tdiv_eq_ediv_of_nonneg (by omega)]; simp [IntKind.wrap_i64]; go_num
  have e2 : ((dgt n).toNat : Int) = IntKind.u8.wrap (48 + IntKind.u8.wrap (n.tmod 10)) := by rw [dgt_nat, Int.tmod_eq_emod_of_nonneg (by omega), IntKind.wrap_u8, IntKind.wrap_u8]; omega
  rw [← e1] at HT
  have hcv := conv_one e2
  have hcd := conv_drew e2
  have HP := Lib.hid (fun w1 w2 (h : Blk w1 w.heap.size 5 [.int .u8 (IntKind.u8.wrap (48 + IntKind.u8.wrap (n.tmod 10)))]) (hb : Below w1.heap.size w1 w2) => conv_past e2 h hb)
  clear e1 e2
  generalize dgt n = b at *
  go_enter Tryd.func26, Tryd.ntmps26
  go_upto_region 3 with fail
  go_region_with (first | (go_at_call 26; ((with_reducible refine (HT.out _).mono ?_)); rintro r w2 ⟨rfl, hb2⟩; (first | (have hcv2 := HP.out _ _ (by first | exact Blk.new w.drew 5 _ | exact Blk.new w 5 _) hb2) | skip)))
  all_goals go_wp2_with fail
  all_goals go_ret
  · exact ⟨rfl, wy1 hb2 _⟩
  · exact ⟨rfl, wy2 hb2⟩
  · exact ⟨rfl, wy2 hb2⟩
theorem rtext_nat : ∀ (k : Nat) (n : Int), n.toNat < k → 0 ≤ n → n ≤ 999999 → ∀ w, Calls Tryd.prog 26 #[.int .i64 n] w fun r w' => r = .returned (.string ⟨(dec n).toArray⟩) ∧ Below w.heap.size w w'
  | 0, n, hk, _, _, _ => by omega
  | k + 1, n, hk, h0, h1, w => by
    by_cases h : n < 10
    · exact rtext_base n h0 h w
    · exact rtext_step n (by omega) h1 (Lib.hid (fun W => rtext_nat k (n / 10) (by omega) (by omega) (by omega) W)) w
theorem rtext_any (n : Int) (h0 : 0 ≤ n) (h1 : n ≤ 999999) (w : World) : Calls Tryd.prog 26 #[.int .i64 n] w fun r w' => r = .returned (.string ⟨(dec n).toArray⟩) ∧ Below w.heap.size w w' :=
  rtext_nat (n.toNat + 1) n (by omega) h0 h1 w
theorem rtwo_any (n : Int) (h0 : 0 ≤ n) (h1 : n < 100) (w : World) :
    Calls Tryd.prog 29 #[.int .i64 n] w fun r w' => r = .returned (.string ⟨(two n).toArray⟩) ∧ Below w.heap.size w w' := by
  have e : ByteArray.mk (two n).toArray = ByteArray.mk #[dgt (n / 10), dgt n] := rfl
  have e1 : ((dgt (n / 10)).toNat : Int) = 48 + n / 10 := dgt_small (by omega) (by omega)
  have e2 := dgt_nat n
  have hcv := conv_two e1 e2
  have q0 : 0 ≤ n / 10 := by omega
  have q1 : n / 10 < 10 := by omega
  have r0 : 0 ≤ n % 10 := by omega
  have r1 : n % 10 < 10 := by omega
  rw [e]
  clear e e1 e2
  generalize dgt (n / 10) = a at *
  generalize dgt n = b at *
  go_enter Tryd.func29, Tryd.ntmps29
  go_wp2_with fail
  go_ret
  exact ⟨rfl, new1 _ _⟩
end Go.Proofs.YtmbbjpfhdijmbaaDoor.Spn
