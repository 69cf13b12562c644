/- Contracts of grown and lay of package octet, and words for a row of bytes that is known whole. -/
import Derived.Test.YtcloakaenkhgpaaDoorOctetCur
import Derived.Test.YtcloakaenkhgpaaDoorOctetPure
import Derived.Laws.CopyOwn
import Derived.Deep.OwnRows
import Derived.Laws.Rows
import Derived.WalkSpells
namespace Go.Proofs.YtcloakaenkhgpaaDoor.Oct
open Go.RowKit Go.Deep

/-- Bytes as cells. -/
def bv (l : List UInt8) : List Value := l.map fun b => Value.int .u8 b.toNat
theorem bv_length (l : List UInt8) : (bv l).length = l.length := by simp [bv]
theorem bv_append (l m : List UInt8) : bv (l ++ m) = bv l ++ bv m := by simp [bv]
theorem bv_getElem? (l : List UInt8) (i : Nat) : (bv l)[i]? = l[i]?.map fun b => Value.int .u8 b.toNat := by simp [bv]
theorem bv_one (l : List UInt8) : ∀ v ∈ bv l, v.oneCell' = true := by
  intro v hv
  obtain ⟨b, _, rfl⟩ := List.mem_map.1 hv
  rfl

/-- The block g is just these bytes. -/
def Row (w : World) (g : Nat) (l : List UInt8) : Prop := w.heap[g]? = some (.cells (bv l).toArray 5 (0, 0))

theorem Row.lt {w : World} {g : Nat} {l : List UInt8} (h : Row w g l) : g < w.heap.size := by
  unfold Row at h
  by_cases hl : g < w.heap.size
  · exact hl
  · rw [Array.getElem?_eq_none (by omega)] at h; cases h
theorem Row.cell {w : World} {g : Nat} {l : List UInt8} (h : Row w g l) {i : Nat} (hi : i < l.length) : w.cell? ⟨g, i, none⟩ = some (.int .u8 l[i].toNat) := by
  rw [cell_of_row w g i _ 5 _ h]
  simp [bv, hi]
theorem Row.frozen {w : World} {g : Nat} {l : List UInt8} (h : Row w g l) (i : Nat) : w.frozen? ⟨g, i, none⟩ = false := by
  unfold Row at h
  simp [World.frozen?, h]
theorem Row.below {w w' : World} {g B : Nat} {l : List UInt8} (h : Row w g l) (hb : Below B w w') (hg : g < B) : Row w' g l := (hb.block g hg).trans h
theorem Row.alloc {w : World} {g : Nat} {l : List UInt8} (h : Row w g l) (o : Obj) : Row (w.alloc o) g l := (Below.heap_alloc w o g h.lt).trans h
theorem Row.set {w : World} {g : Nat} {l : List UInt8} (h : Row w g l) (i : Nat) (b : UInt8) : Row (w.setCell ⟨g, i, none⟩ (.int .u8 b.toNat)) g (l.set i b) := by
  unfold Row at h ⊢
  simp [World.setCell, Array.getElem?_modify, h, bv]

/-- A slice of n elements reads as these bytes. -/
def Reads (w : World) (a : Option Addr) (n : Nat) (l : List UInt8) : Prop :=
  l.length = n ∧ (0 < n → ∃ ad : Addr, a = some ad ∧ ad.block < w.heap.size ∧ ∀ i, (hi : i < l.length) → w.cell? (ad.add i) = some (.int .u8 l[i].toNat))

theorem Row.reads {w : World} {g : Nat} {l : List UInt8} (h : Row w g l) : Reads w (some ⟨g, 0, none⟩) l.length l :=
  ⟨rfl, fun _ => ⟨_, rfl, h.lt, fun i hi => by
    have e : (⟨g, 0, none⟩ : Addr).add i = ⟨g, i, none⟩ := by by_cases h0 : i = 0 <;> simp [Addr.add, h0]
    rw [e]; exact h.cell hi⟩⟩
theorem Reads.below {w w' : World} {a : Option Addr} {n : Nat} {l : List UInt8} (h : Reads w a n l) (hb : Below w.heap.size w w') : Reads w' a n l :=
  ⟨h.1, fun hn => by
    obtain ⟨ad, e, hl, hc⟩ := h.2 hn
    refine ⟨ad, e, Nat.lt_of_lt_of_le hl hb.size, fun i hi => (hb.cell ?_).trans (hc i hi)⟩
    by_cases h0 : i = 0 <;> simpa [Addr.add, h0] using hl⟩

theorem Tryd.info5 : (Tryd.prog.info? 5).map (fun i => (i.zero, i.size, i.bytes)) = some (some (.int .u8 0), 1, 1) := by kernel_rfl
theorem Tryd.size5 : (Tryd.prog.info? 5).map (·.size) = some 1 := by kernel_rfl

theorem made_row (w : World) (n : Nat) : Row (w.alloc (.cells (madeCells #[.int .u8 0] n) 5)) w.heap.size (List.replicate n 0) := by
  unfold Row
  have h : madeCells #[.int .u8 0] n = (bv (List.replicate n 0)).toArray := by
    apply Array.toList_inj.1
    rw [toList_madeCells_one]
    simp [bv]
  rw [h]
  exact heap_alloc_new w _

theorem splice_front (n : Nat) (l : List UInt8) : splice (bv (List.replicate (l.length + n) 0)) 0 (bv l) = bv (l ++ List.replicate n 0) := by
  simp [splice, bv]

/-- A copy of a slice that reads as bytes over the front of a row. -/
theorem copy_front {w W : World} {a : Option Addr} {len cap m g : Nat} {l : List UInt8} {cur : List UInt8} (hR : Reads w a len l) (hb : Below w.heap.size w W) (hg : Row W g cur) (hc : cur.length = m) (hle : len ≤ m) (hB : w.heap.size ≤ g) :
    ∃ w1, (Builtin.copy_ #[55, 55] 3 #[.slice (some ⟨g, 0, none⟩) m m, .slice a len cap]).run Tryd.prog W = .ok (.int .i64 len) w1 ∧ Row w1 g (l ++ cur.drop l.length) ∧ Below w.heap.size w w1 := by
  obtain ⟨rfl, hR2⟩ := hR
  have hR' := Reads.below ⟨rfl, hR2⟩ hb
  by_cases h0 : l.length = 0
  · obtain rfl := List.length_eq_zero_iff.1 h0
    refine ⟨W, ?_, by simpa using hg, hb⟩
    have := run_copy_none (P := Tryd.prog) W 55 55 3 5 (some ⟨g, 0, none⟩) a m m 0 cap Tryd.underlying55 Tryd.size5 (by simp)
    simpa [goInt] using this
  · obtain ⟨ad, rfl, hlt, hcell⟩ := hR'.2 (by omega)
    have hrun := run_copy_row (P := Tryd.prog) W 55 55 3 5 g 0 m m ad l.length cap (bv cur).toArray 5 (bv l) Tryd.underlying55 Tryd.size5 hg (by rw [bv_length]; exact (Nat.min_eq_left hle).symm)
      (fun j v hv => by
        rw [bv_getElem?] at hv
        obtain ⟨b, hb1, rfl⟩ := Option.map_eq_some_iff.1 hv
        obtain ⟨hj, rfl⟩ := List.getElem?_eq_some_iff.1 hb1
        exact hcell j hj) (by simp [bv_length]; omega) (bv_one l)
    refine ⟨W.setRow g (bv (l ++ cur.drop l.length)).toArray, hrun.trans (by simp [goInt, bv]), setRow_heap W g _ _ 5 _ hg, below_setRow hb hB _⟩

set_option maxHeartbeats 400000 in
theorem grown_any (a : Option Addr) (len cap more : Nat) (l : List UInt8) (w : World) (hR : Reads w a len l) (hm : len + more ≤ 140737488355328) :
    Calls Tryd.prog 70 #[.slice a len cap, .int .i64 more] w fun r w' => r = .returned (.slice (some ⟨w.heap.size, 0, none⟩) (len + more) (len + more)) ∧ Row w' w.heap.size (l ++ List.replicate more 0) ∧ Below w.heap.size w w' := by
  have hl := hR.1
  have hmk := fun W => run_make_row' (P := Tryd.prog) 55 5 (.int .u8 0) 1 Tryd.underlying55 Tryd.info5 rfl .i64 .i64 (len + more) (by omega) (by omega) W
  rw [show ((len + more : Nat) : Int) = (len : Int) + more from by omega] at hmk
  obtain ⟨w1, hcp, hrow, hbel⟩ := copy_front (cap := cap) hR ((Below.refl _ _).push _) (made_row w (len + more)) (List.length_replicate ..) (by omega) (Nat.le_refl _)
  have e : l ++ (List.replicate (len + more) (0 : UInt8)).drop l.length = l ++ List.replicate more 0 := by rw [List.drop_replicate, hl, Nat.add_sub_cancel_left]
  rw [e] at hrow
  have HR := Lib.hid hrow
  have HB := Lib.hid hbel
  clear hR hrow hbel e hl
  go_enter Tryd.func70, Tryd.ntmps70
  go_wp2
  go_ret
  exact ⟨rfl, HR.out, HB.out⟩

/-- The lowest j bytes of x, the highest one first. -/
def beB : Nat → Nat → List UInt8
  | 0, _ => []
  | j + 1, x => UInt8.ofNat (x / 256 ^ j % 256) :: beB j x
theorem beB_length (j x : Nat) : (beB j x).length = j := by induction j with
  | zero => rfl
  | succ j ih => simp [beB, ih]

/-- A row whose last j bytes ahead of the place e are those of x. -/
def layed (L : List UInt8) (e j x : Nat) : List UInt8 := L.take (e - j) ++ (beB j x ++ L.drop e)
theorem layed_zero (L : List UInt8) (e x : Nat) : layed L e 0 x = L := by simp [layed, beB]
theorem layed_length (L : List UInt8) (e j x : Nat) (h : e ≤ L.length) (hj : j ≤ e) : (layed L e j x).length = L.length := by
  simp [layed, beB_length]; omega
theorem layed_step (L : List UInt8) (e j x : Nat) (h : e ≤ L.length) (hj : j < e) : (layed L e j x).set (e - (j + 1)) (UInt8.ofNat (x / 256 ^ j % 256)) = layed L e (j + 1) x := by
  unfold layed
  have e1 : L.take (e - j) = L.take (e - (j + 1)) ++ [L[e - (j + 1)]] := by
    rw [show e - j = e - (j + 1) + 1 from by omega, List.take_succ_eq_append_getElem (by omega)]
  rw [e1, List.append_assoc, List.set_append_right _ _ (by simp; omega)]
  have : e - (j + 1) - (L.take (e - (j + 1))).length = 0 := by simp; omega
  rw [this]
  simp [beB]

theorem lay_round (L : List UInt8) (e n k x q : Nat) (h : e ≤ L.length) (hk : k < n) (hn : n ≤ e) (hq : q = x / 256 ^ (n - (k + 1))) :
    q / 256 = x / 256 ^ (n - k) ∧ (layed L e (n - (k + 1)) x).set (e - (n - k)) (UInt8.ofNat (q % 256)) = layed L e (n - k) x := by
  have e1 : n - k = n - (k + 1) + 1 := by omega
  refine ⟨by rw [hq, e1, Nat.pow_succ, Nat.div_div_eq_div_mul], ?_⟩
  rw [hq, e1]
  exact layed_step L e (n - (k + 1)) x h (by omega)

set_option maxHeartbeats 400000 in
theorem lay_any (g off n cap x : Nat) (L : List UInt8) (w : World) (hg : Row w g L) (hfit : off + n ≤ L.length) (hL : L.length ≤ 140737488355328) (hx : x < 9223372036854775808) :
    Calls Tryd.prog 71 #[.slice (some ⟨g, off, none⟩) n cap, .int .i64 x] w fun r w' => r = .returned (.tuple #[]) ∧ Row w' g (layed L (off + n) n x) ∧ Below g w w' := by
  have HG := Lib.hid hg
  clear hg
  go_enter Tryd.func71, Tryd.ntmps71
  go_wp2
  go_loopw [1, 4] (fun y i wr => ∃ (z : Int) (q : Nat), -1 ≤ z ∧ z < n ∧ i = .int .i64 z ∧ y = .int .i64 (q : Int) ∧ q < 9223372036854775808 ∧ Hid (q = x / 256 ^ (n - (z + 1).toNat)) ∧ Row wr g (layed L (off + n) (n - (z + 1).toNat) x) ∧ Below g w wr) (fun _ i _ => (intOf i + 1).toNat)
  case atStart =>
    have e : n - ((n : Int) - 1 + 1).toNat = 0 := by omega
    exact ⟨(n : Int) - 1, x, by omega, by omega, rfl, rfl, hx, by rw [e]; exact Lib.hid (by simp), by rw [e, layed_zero]; exact HG.out, Below.refl _ _⟩
  case round =>
    obtain ⟨z, q, hz1, hz2, rfl, rfl, hq, Hq, hrow, hbel⟩ := hrel
    by_cases hlt : 0 ≤ z
    · obtain ⟨k, rfl⟩ := Int.eq_ofNat_of_zero_le hlt
      have hk : k < n := by omega
      have e : n - ((k : Int) + 1).toNat = n - (k + 1) := by omega
      rw [e] at Hq hrow
      have hc := hrow.cell (i := off + k) (by rw [layed_length _ _ _ _ hfit (by omega)]; omega)
      generalize hv : (layed L (off + n) (n - (k + 1)) x)[off + k]'_ = v at hc
      have hf := hrow.frozen (off + k)
      have HR := Lib.hid hrow
      clear hv hrow e
      go_wp2
      go_roundw
      case rel =>
        obtain ⟨e1, e2⟩ := lay_round L (off + n) n k x q hfit hk (by omega) Hq.out
        refine ⟨(k : Int) - 1, q / 256, by omega, by omega, rfl, by go_num, by omega, ?_, ?_, hbel.setCell (Nat.le_refl _) _⟩
        · rw [show n - ((k : Int) - 1 + 1).toNat = n - k from by omega]; exact e1
        · rw [show n - ((k : Int) - 1 + 1).toNat = n - k from by omega, ← e2, show off + n - (n - k) = off + k from by omega]
          have := HR.out.set (off + k) (UInt8.ofNat (q % 256))
          rw [show ((UInt8.ofNat (q % 256)).toNat : Int) = (q : Int) % 256 from by simp] at this
          exact this
      case measure => simp [intOf]
    · obtain rfl : z = -1 := by omega
      go_wp2
      go_end0
      exact ⟨rfl, hrow, hbel⟩

end Go.Proofs.YtcloakaenkhgpaaDoor.Oct
