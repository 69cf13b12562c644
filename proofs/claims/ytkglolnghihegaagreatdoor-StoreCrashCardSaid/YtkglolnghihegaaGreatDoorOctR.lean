import Derived.Test.YtkglolnghihegaaGreatDoorOct
import Derived.Lib.AppendStr
import Derived.BigQuiet
import Derived.BigRegion
import Derived.ChangeAlike

/- Contracts of the document's answer (errandref01) for cursors: fine, Left, End, New, Num, Take; and of Own and Back of the statements. -/
namespace Go.Proofs.YtkglolnghihegaaGreatDoor.Oct
open Go.RowKit

theorem fine_yes (s : ByteArray) (p : Int) (w : World) (h1 : 0 ≤ p) (h2 : p ≤ s.size) :
    Calls Tryz.prog 156 #[CV s p 0] w fun r w' => r = .returned (.bool true) ∧ Below w.heap.size w w' := by
  go_enter Tryz.func156, Tryz.ntmps156
  go_wp2
  go_ret
  exact ⟨rfl, (Below.refl _ _).push _⟩

theorem fine_failed (s : ByteArray) (p e : Int) (w : World) (he : (e == 0) = false) :
    Calls Tryz.prog 156 #[CV s p e] w fun r w' => r = .returned (.bool false) ∧ Below w.heap.size w w' := by
  go_enter Tryz.func156, Tryz.ntmps156
  go_wp2
  go_ret
  exact ⟨rfl, (Below.refl _ _).push _⟩

theorem fine_out (s : ByteArray) (p : Int) (w : World) (h : p < 0 ∨ s.size < p) :
    Calls Tryz.prog 156 #[CV s p 0] w fun r w' => r = .returned (.bool false) ∧ Below w.heap.size w w' := by
  rcases h with h | h
  · have h' : decide (0 ≤ p) = false := decide_eq_false (by omega)
    go_enter Tryz.func156, Tryz.ntmps156
    go_wp2
    go_ret
    exact ⟨rfl, (Below.refl _ _).push _⟩
  · have h' : decide (0 ≤ p) = true := decide_eq_true (by omega)
    have h'' : decide (p ≤ s.size) = false := decide_eq_false (by omega)
    go_enter Tryz.func156, Tryz.ntmps156
    go_wp2
    go_ret
    exact ⟨rfl, (Below.refl _ _).push _⟩

theorem rnum_failed (s : ByteArray) (p e n : Int) (w : World) (he : (e != 0) = true) :
    Calls Tryz.prog 132 #[CV s p e, .int .i64 n] w fun r w' => r = .returned (.tuple #[CV s p e, .int .i64 0]) ∧ Below w.heap.size w w' := by
  go_enter Tryz.func132, Tryz.ntmps132
  go_wp2_with fail
  refine bodyPost_ret (v := .tuple #[CV s p e, .int .i64 0]) (by simp [results, Tryz.results132, go_sem]) rfl ⟨rfl, ?_⟩
  exact ((Below.refl _ _).push _).push _

theorem boxes35 {s : ByteArray} {p e : Int} {w w1 : World} (hb : Below ((w.alloc (.cells #[.string s, .int .i64 p, .int .i64 e] 215)).alloc (.cells #[.string ⟨#[]⟩, .int .i64 0, .int .i64 0] 215)).heap.size ((w.alloc (.cells #[.string s, .int .i64 p, .int .i64 e] 215)).alloc (.cells #[.string ⟨#[]⟩, .int .i64 0, .int .i64 0] 215)) w1) :
    Box w1 w.heap.size (.string s) (.int .i64 p) (.int .i64 e) ∧ Box w1 (w.heap.size + 1) (.string ⟨#[]⟩) (.int .i64 0) (.int .i64 0) ∧ Below w.heap.size w w1 ∧ w.heap.size + 1 < w1.heap.size := by
  refine ⟨((Box.new w _ _ _ 215).alloc (by simp) _).below hb (by simp; omega), ?_, (((Below.refl _ _).push _).push _).call hb, by have := hb.size; simp at this; omega⟩
  have h0 := Box.new (w.alloc (.cells #[.string s, .int .i64 p, .int .i64 e] 215)) (.string ⟨#[]⟩) (.int .i64 0) (.int .i64 0) 215
  rw [World.size_alloc] at h0
  exact h0.below hb (by simp)

theorem rnum_arg (s : ByteArray) (p n : Int) (w : World) (h : ¬ (0 ≤ p ∧ p ≤ s.size ∧ 1 ≤ n ∧ n ≤ 7)) :
    Calls Tryz.prog 132 #[CV s p 0, .int .i64 n] w fun r w' => r = .returned (.tuple #[CV s p 2, .int .i64 0]) ∧ Below w.heap.size w w' := by
  by_cases hi : 0 ≤ p ∧ p ≤ s.size
  · obtain ⟨h1, h2⟩ := hi
    by_cases hn : n < 1
    · have d1 : decide (n < 1) = true := decide_eq_true hn
      clear h
      go_enter Tryz.func132, Tryz.ntmps132
      go_wp2_with fail
      refine (fine_yes s p _ h1 h2).mono ?_
      rintro r w1 ⟨rfl, hb⟩
      obtain ⟨⟨x0, x1, x2, y0, y1, y2⟩, ⟨x3, x4, x5, y3, y4, y5⟩, hB, hz⟩ := boxes35 hb
      have HB := Lib.hid hB
      clear hb hB
      go_wp2
      refine bodyPost_ret (v := .tuple #[CV s p 2, .int .i64 0]) (by simp [results, Tryz.results132, go_sem, *]) rfl ⟨rfl, ?_⟩
      exact ((HB.out.setCell (Nat.le_succ _) _).setCell (Nat.le_succ _) _).setCell (Nat.le_succ _) _
    · have d1 : decide (n < 1) = false := decide_eq_false hn
      have d2 : decide (7 < n) = true := decide_eq_true (by omega)
      clear h
      go_enter Tryz.func132, Tryz.ntmps132
      go_wp2_with fail
      refine (fine_yes s p _ h1 h2).mono ?_
      rintro r w1 ⟨rfl, hb⟩
      obtain ⟨⟨x0, x1, x2, y0, y1, y2⟩, ⟨x3, x4, x5, y3, y4, y5⟩, hB, hz⟩ := boxes35 hb
      have HB := Lib.hid hB
      clear hb hB
      go_wp2
      refine bodyPost_ret (v := .tuple #[CV s p 2, .int .i64 0]) (by simp [results, Tryz.results132, go_sem, *]) rfl ⟨rfl, ?_⟩
      exact ((HB.out.setCell (Nat.le_succ _) _).setCell (Nat.le_succ _) _).setCell (Nat.le_succ _) _
  · have HI := Lib.hid (show p < 0 ∨ s.size < p by omega)
    clear h hi
    go_enter Tryz.func132, Tryz.ntmps132
    go_wp2_with fail
    refine (fine_out s p _ HI.out).mono ?_
    rintro r w1 ⟨rfl, hb⟩
    obtain ⟨⟨x0, x1, x2, y0, y1, y2⟩, ⟨x3, x4, x5, y3, y4, y5⟩, hB, hz⟩ := boxes35 hb
    have HB := Lib.hid hB
    clear hb hB
    go_wp2
    refine bodyPost_ret (v := .tuple #[CV s p 2, .int .i64 0]) (by simp [results, Tryz.results132, go_sem, *]) rfl ⟨rfl, ?_⟩
    exact ((HB.out.setCell (Nat.le_succ _) _).setCell (Nat.le_succ _) _).setCell (Nat.le_succ _) _

theorem rnum_cut (s : ByteArray) (p n : Int) (w : World) (_hs : s.size ≤ maxLen) (h1 : 0 ≤ p) (h2 : p ≤ s.size) (h3 : 1 ≤ n) (h4 : n ≤ 7) (h5 : s.size - p < n) :
    Calls Tryz.prog 132 #[CV s p 0, .int .i64 n] w fun r w' => r = .returned (.tuple #[CV s p 3, .int .i64 0]) ∧ Below w.heap.size w w' := by
  have d1 : decide (n < 1) = false := decide_eq_false (by omega)
  have d2 : decide (7 < n) = false := decide_eq_false (by omega)
  go_enter Tryz.func132, Tryz.ntmps132
  go_wp2_with fail
  refine (fine_yes s p _ h1 h2).mono ?_
  rintro r w1 ⟨rfl, hb⟩
  obtain ⟨⟨x0, x1, x2, y0, y1, y2⟩, ⟨x3, x4, x5, y3, y4, y5⟩, hB, hz⟩ := boxes35 hb
  have HB := Lib.hid hB
  clear hb hB
  go_wp2
  refine bodyPost_ret (v := .tuple #[CV s p 3, .int .i64 0]) (by simp [results, Tryz.results132, go_sem, *]) rfl ⟨rfl, ?_⟩
  exact ((HB.out.setCell (Nat.le_succ _) _).setCell (Nat.le_succ _) _).setCell (Nat.le_succ _) _

theorem num_step2 (s : ByteArray) (p k : Nat) (hk : k < 7) (h : p + k < s.size) :
    wrap64 (wrap64 (numAt s p k * 256) + wrap64 s[p + k].toNat) = numAt s p (k + 1) := by
  have hb := s[p + k].toNat_lt
  have h1 := numAt_nonneg s p k
  have h2 := numAt_succ s p k h
  have h3 := numAt_lt s p (k + 1) (by omega)
  rw [IntWalk.wrap64_in (numAt s p k * 256) (by omega), IntWalk.wrap64_in (s[p + k].toNat : Int) (by omega), IntWalk.wrap64_in _ (by omega), h2]

set_option maxHeartbeats 400000 in
theorem rnum_ok (s : ByteArray) (p n : Int) (w : World) (hs : s.size ≤ maxLen) (h1 : 0 ≤ p) (h2 : p + n ≤ s.size) (h3 : 1 ≤ n) (h4 : n ≤ 7) :
    Calls Tryz.prog 132 #[CV s p 0, .int .i64 n] w fun r w' => r = .returned (.tuple #[CV s (p + n) 0, .int .i64 (numAt s p n.toNat)]) ∧ Below w.heap.size w w' := by
  obtain ⟨p, rfl⟩ := Int.eq_ofNat_of_zero_le h1
  have h5 : (p : Int) ≤ s.size := by omega
  have hd : decide ((s.size : Int) - p < n) = false := decide_eq_false (by omega)
  have d1 : decide (n < 1) = false := decide_eq_false (by omega)
  have d2 : decide (7 < n) = false := decide_eq_false (by omega)
  unfold maxLen at hs
  go_enter Tryz.func132, Tryz.ntmps132
  go_wp2_with fail
  refine (fine_yes s p _ h1 h5).mono ?_
  rintro r w1 ⟨rfl, hb⟩
  obtain ⟨⟨x0, x1, x2, y0, y1, y2⟩, ⟨x3, x4, x5, y3, y4, y5⟩, hB, hz⟩ := boxes35 hb
  have HB := Lib.hid hB
  clear hb hB
  go_wp2
  go_loop [6, 7] (fun a i => ∃ k : Nat, (k : Int) ≤ n ∧ i = .int .i64 k ∧ a = .int .i64 (numAt s p k)) (fun _ i => (n - intOf i).toNat)
  case atStart => exact ⟨0, by omega, rfl, by rw [numAt_zero]⟩
  case round =>
    obtain ⟨k, hk, rfl, rfl⟩ := hrel
    by_cases hlt : (k : Int) < n
    · have hi : p + k < s.size := by omega
      go_wp2
      go_round
      case rel => exact ⟨k + 1, by omega, by go_num, by rw [num_step2 s p k (by omega) hi]⟩
      case measure => simp [intOf]; omega
    · obtain rfl : n = k := by omega
      go_wp2
      refine bodyPost_ret (v := .tuple #[CV s (p + k) 0, .int .i64 (numAt s p k)]) (by simp [results, Tryz.results132, go_sem, *]) rfl ⟨rfl, ?_⟩
      exact ((HB.out.setCell (Nat.le_succ _) _).setCell (Nat.le_succ _) _).setCell (Nat.le_succ _) _

end Go.Proofs.YtkglolnghihegaaGreatDoor.Oct

/- Contracts of Put, Str and SameBytes of the document's answer (errandref01). -/
namespace Go.Proofs.YtkglolnghihegaaGreatDoor.Oct
open Go.RowKit Go.Deep Go.Lib

theorem power_any (k : Int) (w : World) (h0 : 0 ≤ k) (h1 : k ≤ 7) :
    Calls Tryz.prog 163 #[.int .i64 k] w fun r w' => r = .returned (.int .i64 ((256 ^ k.toNat : Nat) : Int)) ∧ w = w' := by
  obtain ⟨k, rfl⟩ := Int.eq_ofNat_of_zero_le h0
  have hk : k ≤ 7 := by omega
  go_enter Tryz.func163, Tryz.ntmps163
  go_wp2
  go_loop [3, 4] (fun a i => ∃ (j : Nat) (x : Nat), j ≤ k ∧ i = .int .i64 j ∧ a = .int .i64 (x : Int) ∧ Hid (x = 256 ^ j) ∧ x ≤ 72057594037927936) (fun _ i => k - (intOf i).toNat)
  case atStart => exact ⟨0, 1, by omega, rfl, rfl, Lib.hid rfl, by omega⟩
  case round =>
    obtain ⟨j, x, hj, rfl, rfl, hx, hx2⟩ := hrel
    by_cases hlt : j < k
    · have hx3 : x ≤ 281474976710656 := by
        rw [hx.out]
        exact Nat.le_trans (Nat.pow_le_pow_right (by omega) (show j ≤ 6 by omega)) (by decide)
      go_wp2
      go_round
      case rel => exact ⟨j + 1, x * 256, by omega, by go_num, by go_num, Lib.hid (by rw [hx.out, Nat.pow_succ]), by omega⟩
      case measure => simp [intOf]; omega
    · obtain rfl : j = k := by omega
      go_wp2
      go_ret
      exact ⟨by rw [hx.out]; simp, rfl⟩

/-- A slice of the call's own that holds these bytes. -/
def OwnB (w : World) (B : Nat) (v : Value) (l : List UInt8) : Prop := w.ownsRow B 5 1 v l.length (bv l)

theorem OwnB.nil (w : World) (B : Nat) : OwnB w B (.slice none 0 0) [] := ⟨rfl, .inl ⟨rfl, rfl⟩⟩
theorem OwnB.alloc {w : World} {B : Nat} {v : Value} {l : List UInt8} (h : OwnB w B v l) (o : Obj) : OwnB (w.alloc o) B v l := World.ownsRow.alloc h o

theorem OwnB.reads {w : World} {B : Nat} {v : Value} {l : List UInt8} (h : OwnB w B v l) : ∃ a cap, v = .slice a l.length cap ∧ Reads w a l.length l := by
  rcases h.2 with ⟨rfl, h0⟩ | ⟨g, cap, cur, rfl, hB, hg, h1, h2, h3, h4⟩
  · exact ⟨none, 0, by rw [h0], rfl, fun hn => absurd hn (by omega)⟩
  · refine ⟨_, cap, rfl, rfl, fun hn => ⟨_, rfl, ?_, fun i hi => ?_⟩⟩
    · by_cases hl : g < w.heap.size
      · exact hl
      · rw [Array.getElem?_eq_none (by omega)] at hg; cases hg
    · have e : (⟨g, 0, none⟩ : Addr).add i = ⟨g, i, none⟩ := by by_cases h0 : i = 0 <;> simp [Addr.add, h0]
      rw [e, cell_of_row w g i cur 5 _ hg]
      have h5 : (bv l)[i]? = some (.int .u8 l[i].toNat) := by rw [bv_getElem?, List.getElem?_eq_getElem hi]; rfl
      rw [← h4, List.getElem?_take, if_pos (by omega)] at h5
      simpa using h5

theorem append_nil {w : World} {B : Nat} {v : Value} {l : List UInt8} (h : OwnB w B v l) (c : Nat) : (Builtin.append_ #[59, 59] 59 #[v, .slice none 0 c]).run Tryz.prog w = .ok v w := by
  obtain ⟨i, hi, hz⟩ := Option.map_eq_some_iff.1 Tryz.info5
  rcases h.2 with ⟨rfl, h0⟩ | ⟨g, cap, cur, rfl, hB, hg, h1, h2, h3, h4⟩
  · simp [Builtin.append_, run_underlying Tryz.underlying59, sizeOf, typeInfo, hi, Builtin.lenOf, Builtin.firstCells]
  · simp [Builtin.append_, run_underlying Tryz.underlying59, sizeOf, typeInfo, hi, Builtin.lenOf, Builtin.firstCells, h1, storeCells]

/-- An append of bytes that are read to a slice of the call's own. -/
theorem append_reads {w : World} {B : Nat} {v : Value} {l m : List UInt8} {a : Option Addr} {n c : Nat} (h : OwnB w B v l) (hR : Reads w a n m) (hs : l.length + n ≤ 140737488355328) (hB : B ≤ w.heap.size) :
    ∃ v' w', (Builtin.append_ #[59, 59] 59 #[v, .slice a n c]).run Tryz.prog w = .ok v' w' ∧ OwnB w' B v' (l ++ m) ∧ w.grownBy w' v.ownBlock := by
  obtain ⟨rfl, hR2⟩ := hR
  have hl : l.length + m.length ≤ maxLen := by unfold maxLen; omega
  obtain ⟨i, hi, hz⟩ := Option.map_eq_some_iff.1 Tryz.info5
  simp only [Prod.mk.injEq] at hz
  obtain ⟨hz1, hz2, hz3⟩ := hz
  have some_ : ∀ ad : Addr, (∀ j, (hj : j < m.length) → w.cell? (ad.add j) = some (.int .u8 m[j].toNat)) → ∃ v' w', (Builtin.append_ #[59, 59] 59 #[v, .slice (some ad) m.length c]).run Tryz.prog w = .ok v' w' ∧ OwnB w' B v' (l ++ m) ∧ w.grownBy w' v.ownBlock := by
    intro ad hc
    obtain ⟨v', w', h1, h2, h3, -⟩ := run_append_own (P := Tryz.prog) w B 59 59 5 i (.int .u8 0) 1 1 Tryz.underlying59 hi hz1 hz2 hz3 rfl (by omega) v l.length (bv l) h ad m.length c (bv m) (by simp [bv_length])
      (fun j u hu => by
        rw [bv_getElem?] at hu
        obtain ⟨b, hb1, rfl⟩ := Option.map_eq_some_iff.1 hu
        obtain ⟨hj, rfl⟩ := List.getElem?_eq_some_iff.1 hb1
        exact hc j hj) (bv_one m) hl (by omega) hB
    refine ⟨v', w', h1, ?_, h3⟩
    unfold OwnB
    rw [List.length_append, bv_append]
    exact h2
  by_cases h0 : m.length = 0
  · obtain rfl := List.length_eq_zero_iff.1 h0
    cases a with
    | none => exact ⟨v, w, append_nil h c, by simpa using h, World.grownBy.refl w _⟩
    | some ad => exact some_ ad (fun j hj => by simp at hj)
  · obtain ⟨ad, rfl, -, hc⟩ := hR2 (by omega)
    exact some_ ad hc

theorem OwnB.base {w : World} {B : Nat} {v : Value} {l : List UInt8} (h : OwnB w B v l) : ∀ k, v.ownBlock = some k → B ≤ k := by
  rcases h.2 with ⟨rfl, h0⟩ | ⟨g, cap, cur, rfl, hB, -⟩
  · intro k hk; simp [Value.ownBlock] at hk
  · intro k hk; simp [Value.ownBlock] at hk; omega

theorem beB_take (k n j : Nat) (h : j < k) : (beB k n).take (j + 1) = (beB k n).take j ++ [UInt8.ofNat (n / 256 ^ (k - 1 - j) % 256)] := by
  have e : ∀ (k j : Nat), (hj : j < (beB k n).length) → (beB k n)[j] = UInt8.ofNat (n / 256 ^ (k - 1 - j) % 256) := by
    intro k
    induction k with
    | zero => intro j hj; simp [beB] at hj
    | succ k ih =>
      intro j hj
      cases j with
      | zero => simp [beB]
      | succ j =>
        simp only [beB, List.getElem_cons_succ]
        rw [ih j (by simpa [beB] using hj), show k + 1 - 1 - (j + 1) = k - 1 - j from by omega]
  have hl : j < (beB k n).length := by rw [beB_length]; exact h
  rw [List.take_succ_eq_append_getElem hl, e k j hl]

/-- An append whose run is known, at its place in a walk. -/
theorem wpList_append_run {P : Program} {w : World} {ops : Array Oper} {rest : List Oper} {o : Oper} {a : Act} {Q : Exit → Act → World → Prop} (hgd : o.guard = none) (d s : Operand) (dT sT : TypeId)
    (ho : o.op = .call { callee := .builtin .append, args := #[d, s], argTypes := #[dT, sT] }) (vd vs : Value) (hd : a.eval d = vd) (hs : a.eval s = vs) (v' : Value) (w' : World)
    (hrun : (Builtin.append_ #[dT, sT] o.type #[vd, vs]).run P w = .ok v' w') (h : wpList P ops Q rest (a.put o.dst v') w') : wpList P ops Q (o :: rest) a w := by
  refine wpList_plain hgd fun K hK => ?_
  unfold Oper.wp
  simp [execOp, ho, resolve, invoke, builtin, hd, hs, hrun, Result.andThen]
  exact hK _ _ h

theorem row_byte (w : World) (q : Nat) : Row (w.alloc (.cells #[.int .u8 ((q : Int) % 256)] 5)) w.heap.size [UInt8.ofNat (q % 256)] := by
  unfold Row
  have e : (bv [UInt8.ofNat (q % 256)]).toArray = #[Value.int .u8 ((q : Int) % 256)] := by simp [bv]
  rw [e]
  exact heap_alloc_new w _

theorem rput_step (l : List UInt8) (k n j : Nat) (h : j < k) : l ++ (beB k n).take (k - j) = l ++ (beB k n).take (k - ((j : Int) + 1).toNat) ++ [UInt8.ofNat (n / 256 ^ j % 256)] := by
  rw [show k - ((j : Int) + 1).toNat = k - 1 - j from by omega, List.append_assoc, show k - j = k - 1 - j + 1 from by omega, beB_take k n _ (by omega), show k - 1 - (k - 1 - j) = j from by omega]

/-- What is answered: bytes, and an error. -/
def RetB (w : World) (l : List UInt8) (e : Int) (r : Ending) (w' : World) : Prop :=
  ∃ v, r = .returned (.tuple #[v, .int .i64 e]) ∧ OwnB w' w.heap.size v l ∧ Below w.heap.size w w'

set_option maxHeartbeats 400000 in
theorem rput_ok (a : Option Addr) (len cap : Nat) (l : List UInt8) (k n : Nat) (w : World) (hR : Reads w a len l) (hm : len ≤ 140737488355000) (h1 : 1 ≤ k) (h2 : k ≤ 7) (hn : n < 256 ^ k) (hn2 : n < 9223372036854775808) :
    Calls Tryz.prog 141 #[.slice a len cap, .int .i64 k, .int .i64 n] w (RetB w (l ++ beB k n) 0) := by
  have hl := hR.1
  obtain ⟨v0, w0, hap, hown, hgr⟩ := append_reads (c := cap) (OwnB.nil w w.heap.size) hR (by simp; omega) (Nat.le_refl _)
  have HB0 := Lib.hid ((Below.refl _ w).grown hgr (Nat.le_refl _) (OwnB.base (OwnB.nil w w.heap.size)))
  have HO := Lib.hid hown
  have HL := Lib.hid hl
  have hd : decide ((n : Int) < 0) = false := decide_eq_false (by omega)
  have hd2 : decide ((256 : Int) ^ k ≤ n) = false := by
    have : ((256 ^ k : Nat) : Int) = (256 : Int) ^ k := Int.natCast_pow 256 k
    exact decide_eq_false (by omega)
  have hd3 : decide ((k : Int) < 1) = false := decide_eq_false (by omega)
  have hd4 : decide (7 < (k : Int)) = false := decide_eq_false (by omega)
  have HN := Lib.hid hn
  have HAP := Lib.hid hap
  clear hR hown hgr hl hn hap
  go_enter Tryz.func141, Tryz.ntmps141
  go_wp2_with fail
  refine (power_any k _ (by omega) (by omega)).mono ?_
  rintro r w' ⟨rfl, rfl⟩
  go_wp2_with (at_builtin; refine wpList_append_run rfl (.tmp 24) (.tmp 25) 59 59 rfl _ _ rfl rfl v0 w0 HAP.out ?_)
  go_loopw [8, 9] (fun v i wr => ∃ z : Int, -1 ≤ z ∧ z < k ∧ i = .int .i64 z ∧ OwnB wr w.heap.size v (l ++ (beB k n).take (k - (z + 1).toNat)) ∧ Below w.heap.size w wr ∧ w.heap.size ≤ wr.heap.size) (fun _ i _ => (intOf i + 1).toNat)
  case atStart =>
    refine ⟨(k : Int) - 1, by omega, by omega, rfl, ?_, HB0.out, HB0.out.size⟩
    rw [show k - ((k : Int) - 1 + 1).toNat = 0 from by omega]
    simpa using HO.out
  case round =>
    obtain ⟨z, hz1, hz2, rfl, hown, hbel, hsz⟩ := hrel
    by_cases hlt : 0 ≤ z
    · obtain ⟨j, rfl⟩ := Int.eq_ofNat_of_zero_le hlt
      go_wp2_with fail
      refine (power_any j _ (by omega) (by omega)).mono ?_
      rintro r w' ⟨rfl, rfl⟩
      rw [Int.toNat_natCast]
      have hP0 : 0 < 256 ^ j := Nat.pow_pos (by omega)
      have hq0 : n / 256 ^ j ≤ n := Nat.div_le_self ..
      have HQ := Lib.hid (rput_step l k n j (by omega))
      have hdv : (n : Int) / ((256 ^ j : Nat) : Int) = ((n / 256 ^ j : Nat) : Int) := (Int.natCast_ediv _ _).symm
      generalize n / 256 ^ j = q at *
      generalize 256 ^ j = P at *
      obtain ⟨v', w', hap, hown', hgr⟩ := append_reads (c := 1) (hown.alloc (.cells #[.int .u8 ((q : Int) % 256)] 5)) (row_byte wr q).reads (by simp [beB_length, HL.out]; omega) (by simp; omega)
      have HAP := Lib.hid hap
      have HOWN := Lib.hid hown'
      have HBW := Lib.hid ((hbel.push _).grown hgr (by simp; omega) (OwnB.base hown))
      clear hown hap hown' hgr hbel
      go_wp2_with (at_builtin; refine wpList_append_run rfl (.tmp 33) (.tmp 40) 59 59 rfl _ _ rfl rfl v' w' HAP.out ?_)
      go_roundw
      case rel =>
        refine ⟨(j : Int) - 1, by omega, by omega, rfl, ?_, HBW.out, HBW.out.size⟩
        rw [show k - ((j : Int) - 1 + 1).toNat = k - j from by omega, HQ.out]
        exact HOWN.out
      case measure => simp [intOf]
    · obtain rfl : z = -1 := by omega
      rw [show k - ((-1 : Int) + 1).toNat = k from by omega, List.take_of_length_le (by rw [beB_length]; omega)] at hown
      go_wp2
      go_ret2
      exact ⟨_, rfl, hown, hbel⟩

theorem rput_width (a : Option Addr) (len cap : Nat) (k n : Int) (w : World) (h : k < 1 ∨ 7 < k) :
    Calls Tryz.prog 141 #[.slice a len cap, .int .i64 k, .int .i64 n] w fun r w' => r = .returned (.tuple #[.slice none 0 0, .int .i64 2]) ∧ w = w' := by
  rcases h with h | h
  · go_enter Tryz.func141, Tryz.ntmps141
    go_wp2
    go_ret2
    exact ⟨rfl, rfl⟩
  · have h' : decide (k < 1) = false := decide_eq_false (by omega)
    go_enter Tryz.func141, Tryz.ntmps141
    go_wp2
    go_ret2
    exact ⟨rfl, rfl⟩

theorem rput_neg (a : Option Addr) (len cap : Nat) (k n : Int) (w : World) (h1 : 1 ≤ k) (h2 : k ≤ 7) (hn : n < 0) :
    Calls Tryz.prog 141 #[.slice a len cap, .int .i64 k, .int .i64 n] w fun r w' => r = .returned (.tuple #[.slice none 0 0, .int .i64 8]) ∧ w = w' := by
  have hd3 : decide (k < 1) = false := decide_eq_false (by omega)
  have hd4 : decide (7 < k) = false := decide_eq_false (by omega)
  go_enter Tryz.func141, Tryz.ntmps141
  go_wp2
  go_ret2
  exact ⟨rfl, rfl⟩

theorem rput_big (a : Option Addr) (len cap : Nat) (k n : Nat) (w : World) (h1 : 1 ≤ k) (h2 : k ≤ 7) (hn : 256 ^ k ≤ n) :
    Calls Tryz.prog 141 #[.slice a len cap, .int .i64 k, .int .i64 n] w fun r w' => r = .returned (.tuple #[.slice none 0 0, .int .i64 8]) ∧ w = w' := by
  have hd : decide ((n : Int) < 0) = false := decide_eq_false (by omega)
  have hd2 : decide ((256 : Int) ^ k ≤ n) = true := by
    have : ((256 ^ k : Nat) : Int) = (256 : Int) ^ k := Int.natCast_pow 256 k
    exact decide_eq_true (by omega)
  have hd3 : decide ((k : Int) < 1) = false := decide_eq_false (by omega)
  have hd4 : decide (7 < (k : Int)) = false := decide_eq_false (by omega)
  clear hn
  go_enter Tryz.func141, Tryz.ntmps141
  go_wp2_with fail
  refine (power_any k _ (by omega) (by omega)).mono ?_
  rintro r w' ⟨rfl, rfl⟩
  go_wp2
  go_ret2
  exact ⟨rfl, rfl⟩

/-- What Put answers. -/
def putR (l : List UInt8) (k n : Int) : List UInt8 × Int :=
  if 1 ≤ k ∧ k ≤ 7 then (if 0 ≤ n ∧ n.toNat < 256 ^ k.toNat then (l ++ beB k.toNat n.toNat, 0) else ([], 8)) else ([], 2)

theorem ret_nil {w : World} {e : Int} {r : Ending} {w' : World} (h : r = .returned (.tuple #[.slice none 0 0, .int .i64 e]) ∧ w = w') : RetB w [] e r w' := by
  obtain ⟨rfl, rfl⟩ := h
  exact ⟨_, rfl, OwnB.nil _ _, Below.refl _ _⟩

theorem Row.own {w : World} {g : Nat} {l : List UInt8} (h : Row w g l) {B : Nat} (hB : B ≤ g) (hl : l.length ≤ 140737488355328) : OwnB w B (.slice (some ⟨g, 0, none⟩) l.length l.length) l :=
  ⟨by simp [bv_length], .inr ⟨g, l.length, (bv l).toArray, rfl, hB, h, Nat.le_refl _, by unfold maxLen; omega, by simp [bv_length], by simp [List.take_of_length_le, bv_length]⟩⟩

theorem put_any (a : Option Addr) (len cap : Nat) (l : List UInt8) (k n : Int) (w : World) (hR : Reads w a len l) (hm : len ≤ 140737488255000) (hn2 : n < 9223372036854775808) :
    Calls Tryz.prog 170 #[.slice a len cap, .int .i64 k, .int .i64 n] w (RetB w (putR l k n).1 (putR l k n).2) := by
  unfold putR
  by_cases hk : 1 ≤ k ∧ k ≤ 7
  · rw [if_pos hk]
    obtain ⟨h1, h2⟩ := hk
    obtain ⟨k, rfl⟩ := Int.eq_ofNat_of_zero_le (show 0 ≤ k by omega)
    by_cases hn : 0 ≤ n
    · obtain ⟨n, rfl⟩ := Int.eq_ofNat_of_zero_le hn
      by_cases hr : n < 256 ^ k
      · rw [if_pos ⟨by omega, by simpa using hr⟩]
        refine (put_ok a len cap l k n w hR (by omega) (by omega) (by omega) hr (by omega)).mono ?_
        rintro r w' ⟨rfl, h3, h4⟩
        have hl := hR.1
        have := h3.own (Nat.le_refl _) (by simp [beB_length]; omega)
        rw [List.length_append, beB_length, hl] at this
        exact ⟨_, rfl, this, h4⟩
      · rw [if_neg (fun x => hr (by simpa using x.2))]
        exact (put_big a len cap k n w (by omega) (by omega) (by omega) (by omega)).mono fun _ _ h => ret_nil h
    · rw [if_neg (fun x => hn x.1)]
      exact (put_neg a len cap k n w (by omega) (by omega) (by omega)).mono fun _ _ h => ret_nil h
  · rw [if_neg hk]
    exact (put_width a len cap k n w (by omega)).mono fun _ _ h => ret_nil h

theorem rput_any (a : Option Addr) (len cap : Nat) (l : List UInt8) (k n : Int) (w : World) (hR : Reads w a len l) (hm : len ≤ 140737488255000) (hn2 : n < 9223372036854775808) :
    Calls Tryz.prog 141 #[.slice a len cap, .int .i64 k, .int .i64 n] w (RetB w (putR l k n).1 (putR l k n).2) := by
  unfold putR
  by_cases hk : 1 ≤ k ∧ k ≤ 7
  · rw [if_pos hk]
    obtain ⟨h1, h2⟩ := hk
    obtain ⟨k, rfl⟩ := Int.eq_ofNat_of_zero_le (show 0 ≤ k by omega)
    by_cases hn : 0 ≤ n
    · obtain ⟨n, rfl⟩ := Int.eq_ofNat_of_zero_le hn
      by_cases hr : n < 256 ^ k
      · rw [if_pos ⟨by omega, by simpa using hr⟩]
        exact rput_ok a len cap l k n w hR (by omega) (by omega) (by omega) hr (by omega)
      · rw [if_neg (fun x => hr (by simpa using x.2))]
        exact (rput_big a len cap k n w (by omega) (by omega) (by omega)).mono fun _ _ h => ret_nil h
    · rw [if_neg (fun x => hn x.1)]
      exact (rput_neg a len cap k n w (by omega) (by omega) (by omega)).mono fun _ _ h => ret_nil h
  · rw [if_neg hk]
    exact (rput_width a len cap k n w (by omega)).mono fun _ _ h => ret_nil h

/-- What Str answers. -/
def strR (l : List UInt8) (s : ByteArray) : List UInt8 × Int := if s.size ≤ 65535 then (l ++ (beB 2 s.size ++ s.data.toList), 0) else ([], 5)

theorem str_any (a : Option Addr) (len cap : Nat) (l : List UInt8) (s : ByteArray) (w : World) (hR : Reads w a len l) (hm : len ≤ 140737488155000) :
    Calls Tryz.prog 55 #[.slice a len cap, .string s] w (RetB w (strR l s).1 (strR l s).2) := by
  unfold strR
  by_cases hs : s.size ≤ 65535
  · rw [if_pos hs]
    refine (str_ok a len cap l s w hR (by omega) hs).mono ?_
    rintro r w' ⟨rfl, h3, h4⟩
    have hl := hR.1
    have e : (l ++ (beB 2 s.size ++ s.data.toList)).length = len + (2 + s.size) := by
      rw [List.length_append, List.length_append, beB_length, hl]; rfl
    have := h3.own (Nat.le_refl _) (by rw [e]; omega)
    rw [e] at this
    exact ⟨_, rfl, this, h4⟩
  · rw [if_neg hs]
    exact (str_long a len cap s w (by omega)).mono fun _ _ h => ret_nil h

/-- An append of a string to a slice of the call's own. -/
theorem append_string {w : World} {B : Nat} {v : Value} {l : List UInt8} (h : OwnB w B v l) (s : ByteArray) (hs : l.length + s.size ≤ 140737488355328) (hB : B ≤ w.heap.size) :
    ∃ v' w', (Builtin.append_ #[59, 9] 59 #[v, .string s]).run Tryz.prog w = .ok v' w' ∧ OwnB w' B v' (l ++ s.data.toList) ∧ w.grownBy w' v.ownBlock := by
  obtain ⟨i, hi, hz⟩ := Option.map_eq_some_iff.1 Tryz.info5
  simp only [Prod.mk.injEq] at hz
  obtain ⟨hz1, hz2, hz3⟩ := hz
  obtain ⟨v', w', h1, h2, h3, -⟩ := run_append_own_string (P := Tryz.prog) w B 59 9 59 5 i Tryz.underlying59 Tryz.underlying9 hi hz1 hz2 hz3 v l.length (bv l) h s (by unfold maxLen; omega) hs hB
  refine ⟨v', w', h1, ?_, h3⟩
  unfold OwnB
  rw [List.length_append, bv_append]
  exact h2

theorem Reads.at_ {w : World} {a : Option Addr} {n : Nat} {l : List UInt8} (h : Reads w a n l) (hn : 0 < n) : ∃ b off, a = some ⟨b, off, none⟩ ∧ b < w.heap.size ∧ ∀ i, (hi : i < l.length) → w.cell? ⟨b, off + i, none⟩ = some (.int .u8 l[i].toNat) := by
  obtain ⟨ad, rfl, -, hc⟩ := h.2 hn
  obtain ⟨b, off, e, hb, hv⟩ := (readsV_of (x := ad) (vs := bv l) (n := n) (by rw [bv_length]; exact h.1) (fun i hi => by
    rw [hc i (by simpa [bv_length] using hi)]; simp [bv])).2 hn
  exact ⟨b, off, e, hb, fun i hi => by rw [hv i (by simpa [bv_length] using hi)]; simp [bv]⟩

end Go.Proofs.YtkglolnghihegaaGreatDoor.Oct

/- Contracts of Num and Take of the document's answer (errandref01). -/
namespace Go.Proofs.YtkglolnghihegaaGreatDoor.Oct
open Go.RowKit

theorem rnum_any (s : ByteArray) (p e n : Int) (w : World) (hs : s.size ≤ maxLen) :
    Calls Tryz.prog 132 #[CV s p e, .int .i64 n] w fun r w' => r = .returned (.tuple #[CV s (numR s p e n).1 (numR s p e n).2.1, .int .i64 (numR s p e n).2.2]) ∧ Below w.heap.size w w' := by
  unfold numR
  by_cases he : e = 0
  · subst he
    rw [if_pos rfl]
    by_cases h : 0 ≤ p ∧ p ≤ s.size ∧ 1 ≤ n ∧ n ≤ 7
    · rw [if_pos h]
      obtain ⟨h1, h2, h3, h4⟩ := h
      by_cases hc : s.size - p < n
      · rw [if_pos hc]; exact rnum_cut s p n w hs h1 h2 h3 h4 hc
      · rw [if_neg hc]; exact rnum_ok s p n w hs h1 (by omega) h3 h4
    · rw [if_neg h]; exact rnum_arg s p n w h
  · rw [if_neg he]; exact rnum_failed s p e n w (by simpa using he)

end Go.Proofs.YtkglolnghihegaaGreatDoor.Oct
