/- Contracts of the document's Fold, Join and Place (errandref15). -/
import Derived.Test.YtplobfnljlnkkaaDoorFldRefS
import Derived.Test.YtplobfnljlnkkaaDoorUtfRefB
set_option linter.unusedVariables false
namespace Go.Proofs.YtplobfnljlnkkaaDoor.Fld
open Go.RowKit Go.Deep Go.Proofs.YtplobfnljlnkkaaDoor.Byt Go.Proofs.YtplobfnljlnkkaaDoor.Utf Go.Proofs.YtplobfnljlnkkaaDoor.Tre

theorem list_app (a b : ByteArray) : (a ++ b).data.toList = a.data.toList ++ b.data.toList := by simp
theorem head_list (s : ByteArray) (k : Nat) : (s.extract 0 k).data.toList = s.data.toList.take k := by simp
theorem tail_list (s : ByteArray) (i : Nat) : (s.extract i s.size).data.toList = s.data.toList.drop i := by
  simp
  exact List.take_of_length_le (by simp)
/-- A text under way: what there is, and what is still to be folded. -/
def Fo (s x t : ByteArray) : Prop := foldL s.data.toList = x.data.toList ++ foldR t.data.toList ∧ t.size ≤ s.size
theorem Fo.small {s x t : ByteArray} (h : Fo s x t) : x.size ≤ s.size + 5 + 3 * (s.size / 71) := by
  have h1 := foldL_len s.data.toList
  have h2 := congrArg List.length h.1
  rw [List.length_append, len_list] at h2
  rw [len_list] at h1
  omega
theorem Fo.start (s : ByteArray) : Fo s (s.extract 0 (cutN 75 s.data.toList) ++ ⟨#[13, 10]⟩) (s.extract (cutN 75 s.data.toList) s.size) := by
  refine ⟨?_, by rw [ByteArray.size_extract]; omega⟩
  rw [list_app, head_list, tail_list]
  unfold foldL
  simp
theorem ne_of_size {t : ByteArray} (h : 0 < t.size) : t.data.toList ≠ [] := by
  intro e
  have := len_list t
  rw [e] at this
  simp at this
  omega
theorem Fo.step {s x t : ByteArray} (h : Fo s x t) (ht : 0 < t.size) : Fo s (x ++ (⟨#[32]⟩ ++ t.extract 0 (cutN 74 t.data.toList) ++ ⟨#[13, 10]⟩)) (t.extract (cutN 74 t.data.toList) t.size) := by
  refine ⟨?_, by have := h.2; rw [ByteArray.size_extract]; omega⟩
  rw [h.1, foldR_on (ne_of_size ht), list_app, list_app, list_app, head_list, tail_list]
  simp
theorem Fo.end {s x t : ByteArray} (h : Fo s x t) (ht : t.size = 0) : x = ⟨(foldL s.data.toList).toArray⟩ := by
  have : t.data.toList = [] := List.eq_nil_of_length_eq_zero (by rw [len_list]; exact ht)
  have h1 := h.1
  rw [this, foldR_nil, List.append_nil] at h1
  rw [h1, mk_list]
set_option maxRecDepth 20000 in
theorem rfold_any (s : ByteArray) (hs : s.size ≤ 1000) (w : World) : Calls Tryd.prog 16 #[.string s] w fun r w' => r = .returned (.string ⟨(foldL s.data.toList).toArray⟩) ∧ w = w' := by
  have HC := Lib.hid (fun W => rcut_any s hs 75 W)
  have hk := (cutN_le s.data.toList 75).1
  rw [len_list] at hk
  have HS := Lib.hid (Fo.start s)
  have HCT := Lib.hid (fun (t : ByteArray) (ht : t.size ≤ 1000) W => rcut_any t ht 74 W)
  generalize cutN 75 s.data.toList = k at *
  have hk' : (k : Int) ≤ s.size := by omega
  have hsz : (s.extract 0 k).size ≤ 1000 := by rw [ByteArray.size_extract]; omega
  have hsz2 : (s.extract k s.size).size ≤ 1000 := by rw [ByteArray.size_extract]; omega
  go_enter Tryd.func16, Tryd.ntmps16
  go_wp2_with (go_at_call 31; with_reducible refine (HC.out _).mono ?_; rintro e w' ⟨rfl, rfl⟩)
  go_loop [0, 4] (fun tv xv => ∃ (t x : ByteArray), tv = .string t ∧ xv = .string x ∧ t.size ≤ 1000 ∧ Hid (Fo s x t)) (fun tv _ => match tv with | .string t => t.size | _ => 0)
  case atStart => exact ⟨_, _, rfl, rfl, hsz2, HS⟩
  case round =>
    obtain ⟨t, x, rfl, rfl, ht, hf⟩ := hrel
    have hx := hf.out.small
    by_cases h : 0 < t.size
    · have h' : (0 : Int) < t.size := by omega
      have HT := Lib.hid (fun W => HCT.out t ht W)
      have hc := (cutN_le t.data.toList 74).1
      have hp := cut_pos (ne_of_size h) (n := 74) (by omega)
      rw [len_list] at hc
      have HF := Lib.hid (hf.out.step h)
      generalize cutN 74 t.data.toList = q at *
      have hq' : (q : Int) ≤ t.size := by omega
      have e1 : (t.extract 0 q).size = q := by rw [ByteArray.size_extract]; omega
      have e2 : (t.extract q t.size).size = t.size - q := by rw [ByteArray.size_extract]; omega
      have hx2 : x.size ≤ 2000 := by omega
      clear hx
      go_wp2_with (go_at_call 31; with_reducible refine (HT.out _).mono ?_; rintro e w' ⟨rfl, rfl⟩)
      go_round
      case rel => exact ⟨_, _, rfl, rfl, by rw [e2]; omega, HF⟩
      case measure => show (t.extract q t.size).size < t.size; rw [e2]; omega
    · have HE := Lib.hid (hf.out.end (by omega))
      have h' : (t.size : Int) ≤ 0 := by omega
      go_wp2_with fail
      go_ret
      exact ⟨by rw [← HE.out]; rfl, rfl⟩

/-- Texts that are read. -/
def txC (t : ByteArray) : List Dat := [.one (.string t)]
def txD (ts : List ByteArray) : Dat := .sl 9 1 ts.length (ts.flatMap txC)
theorem text_at {w : World} {ts : List ByteArray} {a : Option Addr} {c : Nat} (h : Rd w (txD ts) (.slice a ts.length c)) {i : Nat} (hi : i < ts.length) : ∃ b off, a = some ⟨b, off, none⟩ ∧ w.cell? ⟨b, off + i, none⟩ = some (.string ts[i]) := by
  obtain ⟨_, a', c', hv, hc⟩ := Rd.elems (f := txC) (k := 1) (fun _ => rfl) h (by omega)
  obtain ⟨b, off, rfl, hb, hcell⟩ := hc (by omega)
  obtain ⟨u, hu, hr⟩ := hcell i hi 0 _ rfl
  injection hv with e1 e2 e3
  subst e1
  exact ⟨b, off, rfl, by rw [← hr.val]; simpa using hu⟩
def lists (ts : List ByteArray) : List (List UInt8) := ts.map fun t => t.data.toList
theorem joinL_snoc (ts : List (List UInt8)) (t : List UInt8) : joinL (ts ++ [t]) = joinL ts ++ foldL t := by simp [joinL]
set_option maxRecDepth 20000 in
theorem rjoin_any (ts : List ByteArray) (hn : ts.length ≤ 10) (ht : ∀ t ∈ ts, t.size ≤ 400) (a : Option Addr) (c : Nat) (w : World) (ha : Rd w (txD ts) (.slice a ts.length c)) : Calls Tryd.prog 18 #[.slice a ts.length c] w fun r w' => r = .returned (.string ⟨(joinL (lists ts)).toArray⟩) ∧ w = w' := by
  have HA := Lib.hid ha
  have HT := Lib.hid ht
  clear ha ht
  go_enter Tryd.func18, Tryd.ntmps18
  go_wp2_with fail
  go_loop [3, 4] (fun xv iv => ∃ (x : ByteArray) (k : Nat), k ≤ ts.length ∧ xv = .string x ∧ iv = .int .i64 k ∧ x.size ≤ k * 500 ∧ Hid (x.data.toList = joinL (lists (ts.take k)))) (fun _ iv => ts.length - (intOf iv).toNat)
  case atStart => exact ⟨_, 0, Nat.zero_le _, rfl, rfl, by decide, Lib.hid rfl⟩
  case round =>
    obtain ⟨x, k, hk, rfl, rfl, hx, hj⟩ := hrel
    by_cases h : k < ts.length
    · have h' : (k : Int) < ts.length := by omega
      obtain ⟨b, off, rfl, c0⟩ := text_at HA.out h
      have hs := HT.out ts[k] (List.getElem_mem h)
      have HF := Lib.hid (fun W => rfold_any ts[k] (by omega) W)
      have hl := foldL_len ts[k].data.toList
      have HJ : (x ++ ⟨(foldL ts[k].data.toList).toArray⟩).data.toList = joinL (lists (ts.take (k + 1))) := by
        rw [list_app, hj.out, List.take_succ_eq_append_getElem h]
        unfold lists
        rw [List.map_append, List.map_singleton, joinL_snoc]
      have HJ2 := Lib.hid HJ
      rw [len_list] at hl
      have hz : (ByteArray.mk (foldL ts[k].data.toList).toArray).size ≤ 450 := by rw [size_mk]; omega
      clear HJ hl
      generalize ByteArray.mk (foldL ts[k].data.toList).toArray = y at *
      generalize ts[k] = t at *
      go_wp2_with (go_at_call 16; with_reducible refine (HF.out _).mono ?_; rintro e w' ⟨rfl, rfl⟩)
      go_round
      case rel => exact ⟨_, k + 1, by omega, rfl, by go_num, by rw [ByteArray.size_append]; omega, HJ2⟩
      case measure => simp [intOf]; omega
    · obtain rfl : k = ts.length := by omega
      have HE := Lib.hid hj.out
      rw [List.take_of_length_le (Nat.le_refl _)] at HE
      go_wp2_with fail
      go_ret
      exact ⟨by rw [← HE.out, mk_list]; rfl, rfl⟩

theorem plc_take {ps : List (Int × Int)} {m : Nat} (h : m < ps.length) (i : Int) : plc (ps.take (m + 1)) i = if ps[m].1 ≤ i then ps[m].2 + (i - ps[m].1) else plc (ps.take m) i := by
  rw [List.take_succ_eq_append_getElem h, plc_snoc]

/-- What Place answers, in 64 bits. -/
def plcA (l : PL) (i : Int) : Int := wrap64 (plcR l i)
theorem wrap_in (a b c : Int) : wrap64 (a + wrap64 (b - c)) = wrap64 (a + (b - c)) := by
  unfold wrap64
  omega
theorem wrap_zero : wrap64 0 = 0 := by unfold wrap64; omega
set_option maxRecDepth 20000 in
set_option maxHeartbeats 1000000 in
theorem rplace_any (l : PL) (ht : l.t.length ≤ 10000) (hp : l.ps.length ≤ 10000) (a : Option Addr) (c : Nat) (i : Int) (i0 : -9223372036854775808 ≤ i) (i1 : i ≤ 9223372036854775807) (hin : ∀ p ∈ l.ps, (-9223372036854775808 ≤ p.1 ∧ p.1 ≤ 9223372036854775807) ∧ -9223372036854775808 ≤ p.2 ∧ p.2 ≤ 9223372036854775807) (w : World) (hr : Rd w (pD 60 l.ps) (.slice a l.ps.length c)) :
    Calls Tryd.prog 21 #[.agg #[.string ⟨l.t.toArray⟩, .slice a l.ps.length c], .int .i64 i] w fun r w' => r = .returned (.int .i64 (plcA l i)) ∧ Below w.heap.size w w' := by
  have HR := Lib.hid hr
  have HI := Lib.hid hin
  have hsz : (ByteArray.mk l.t.toArray).size = l.t.length := size_mk l.t
  unfold plcA plcR
  rw [← hsz]
  have htx : (ByteArray.mk l.t.toArray).size ≤ 10000 := by omega
  clear hr hin hsz
  generalize ByteArray.mk l.t.toArray = tx at *
  generalize l.ps = ps at *
  rcases Int.lt_trichotomy i 0 with hi | hi | hi
  · have e : max 0 (min (tx.size : Int) i) = 0 := by omega
    rw [e]
    clear e
    go_enter Tryd.func21, Tryd.ntmps21
    go_wp2_with fail
    go_loop [5] (fun v => ∃ m : Nat, m ≤ ps.length ∧ v = .int .i64 ((m : Int) - 1) ∧ Hid (plc ps 0 = plc (ps.take m) 0)) (fun v => (intOf v + 1).toNat)
    case atStart => exact ⟨ps.length, Nat.le_refl _, rfl, Lib.hid (by rw [List.take_of_length_le (Nat.le_refl _)])⟩
    case round =>
      obtain ⟨m, hm, rfl, hq⟩ := hrel
      rcases Nat.eq_zero_or_pos m with h0 | h0
      · subst h0
        have HE := Lib.hid (hq.out.trans (plc_nil _))
        go_wp2_with fail
        go_ret
        exact ⟨by rw [HE.out, wrap_zero]; rfl, (Below.refl _ _).alloc (Nat.le_refl _) _⟩
      · obtain ⟨k, rfl⟩ : ∃ k, m = k + 1 := ⟨m - 1, by omega⟩
        have hk : k < ps.length := by omega
        have ek : ((k + 1 : Nat) : Int) - 1 = k := by omega
        rw [ek]
        have hk' : (k : Int) < ps.length := by omega
        obtain ⟨b, off, rfl, c0w, c1w⟩ := piece_at HR.out hk
        have l0 := Byt.cell_lt c0w
        have hpl := plc_take hk 0
        obtain ⟨⟨x0, x1⟩, y0, y1⟩ := HI.out ps[k] (List.getElem_mem hk)
        generalize ps[k].1 = x at *
        generalize ps[k].2 = y at *
        have c0 : (w.alloc (.cells #[.string tx, .slice (some ⟨b, off, none⟩) ps.length c] 40)).cell? ⟨b, off + k * 2, none⟩ = some (.int .i64 x) := by rw [World.cell?_alloc_lt _ _ _ l0]; exact c0w
        have c1 : (w.alloc (.cells #[.string tx, .slice (some ⟨b, off, none⟩) ps.length c] 40)).cell? ⟨b, off + k * 2 + 1, none⟩ = some (.int .i64 y) := by rw [World.cell?_alloc_lt _ _ (⟨b, off + k * 2 + 1, none⟩ : Addr) l0]; exact c1w
        by_cases hx : x ≤ 0
        · rw [if_pos hx] at hpl
          have HE := Lib.hid (hq.out.trans hpl)
          clear hpl
          go_wp2_with fail
          go_quiet (fail)
          go_wp2_with fail
          go_ret
          exact ⟨by rw [HE.out, ← wrap_in, Int.zero_sub]; rfl, ((Bl.refl w).alloc _).drewN _ |>.below⟩
        · rw [if_neg hx] at hpl
          have HE := Lib.hid (hq.out.trans hpl)
          clear hpl
          go_wp2_with fail
          go_round
          case rel => exact ⟨k, by omega, by go_num, HE⟩
          case measure => simp [intOf]; try omega
  · subst hi
    have e : max 0 (min (tx.size : Int) 0) = 0 := by omega
    rw [e]
    clear e
    rcases Nat.eq_zero_or_pos tx.size with hz | hz
    · have hz' : (tx.size : Int) = 0 := by omega
      go_enter Tryd.func21, Tryd.ntmps21
      go_wp2_with fail
      go_loop [5] (fun v => ∃ m : Nat, m ≤ ps.length ∧ v = .int .i64 ((m : Int) - 1) ∧ Hid (plc ps 0 = plc (ps.take m) 0)) (fun v => (intOf v + 1).toNat)
      case atStart => exact ⟨ps.length, Nat.le_refl _, rfl, Lib.hid (by rw [List.take_of_length_le (Nat.le_refl _)])⟩
      case round =>
        obtain ⟨m, hm, rfl, hq⟩ := hrel
        rcases Nat.eq_zero_or_pos m with h0 | h0
        · subst h0
          have HE := Lib.hid (hq.out.trans (plc_nil _))
          go_wp2_with fail
          go_ret
          exact ⟨by rw [HE.out, wrap_zero]; rfl, (Below.refl _ _).alloc (Nat.le_refl _) _⟩
        · obtain ⟨k, rfl⟩ : ∃ k, m = k + 1 := ⟨m - 1, by omega⟩
          have hk : k < ps.length := by omega
          have ek : ((k + 1 : Nat) : Int) - 1 = k := by omega
          rw [ek]
          have hk' : (k : Int) < ps.length := by omega
          obtain ⟨b, off, rfl, c0w, c1w⟩ := piece_at HR.out hk
          have l0 := Byt.cell_lt c0w
          have hpl := plc_take hk 0
          obtain ⟨⟨x0, x1⟩, y0, y1⟩ := HI.out ps[k] (List.getElem_mem hk)
          generalize ps[k].1 = x at *
          generalize ps[k].2 = y at *
          have c0 : (w.alloc (.cells #[.string tx, .slice (some ⟨b, off, none⟩) ps.length c] 40)).cell? ⟨b, off + k * 2, none⟩ = some (.int .i64 x) := by rw [World.cell?_alloc_lt _ _ _ l0]; exact c0w
          have c1 : (w.alloc (.cells #[.string tx, .slice (some ⟨b, off, none⟩) ps.length c] 40)).cell? ⟨b, off + k * 2 + 1, none⟩ = some (.int .i64 y) := by rw [World.cell?_alloc_lt _ _ (⟨b, off + k * 2 + 1, none⟩ : Addr) l0]; exact c1w
          by_cases hx : x ≤ 0
          · rw [if_pos hx] at hpl
            have HE := Lib.hid (hq.out.trans hpl)
            clear hpl
            go_wp2_with fail
            go_quiet (fail)
            go_wp2_with fail
            go_ret
            exact ⟨by rw [HE.out, ← wrap_in, Int.zero_sub]; rfl, ((Bl.refl w).alloc _).drewN _ |>.below⟩
          · rw [if_neg hx] at hpl
            have HE := Lib.hid (hq.out.trans hpl)
            clear hpl
            go_wp2_with fail
            go_round
            case rel => exact ⟨k, by omega, by go_num, HE⟩
            case measure => simp [intOf]; try omega
    · have hz' : 0 < (tx.size : Int) := by omega
      go_enter Tryd.func21, Tryd.ntmps21
      go_wp2_with fail
      go_loop [5] (fun v => ∃ m : Nat, m ≤ ps.length ∧ v = .int .i64 ((m : Int) - 1) ∧ Hid (plc ps 0 = plc (ps.take m) 0)) (fun v => (intOf v + 1).toNat)
      case atStart => exact ⟨ps.length, Nat.le_refl _, rfl, Lib.hid (by rw [List.take_of_length_le (Nat.le_refl _)])⟩
      case round =>
        obtain ⟨m, hm, rfl, hq⟩ := hrel
        rcases Nat.eq_zero_or_pos m with h0 | h0
        · subst h0
          have HE := Lib.hid (hq.out.trans (plc_nil _))
          go_wp2_with fail
          go_ret
          exact ⟨by rw [HE.out, wrap_zero]; rfl, (Below.refl _ _).alloc (Nat.le_refl _) _⟩
        · obtain ⟨k, rfl⟩ : ∃ k, m = k + 1 := ⟨m - 1, by omega⟩
          have hk : k < ps.length := by omega
          have ek : ((k + 1 : Nat) : Int) - 1 = k := by omega
          rw [ek]
          have hk' : (k : Int) < ps.length := by omega
          obtain ⟨b, off, rfl, c0w, c1w⟩ := piece_at HR.out hk
          have l0 := Byt.cell_lt c0w
          have hpl := plc_take hk 0
          obtain ⟨⟨x0, x1⟩, y0, y1⟩ := HI.out ps[k] (List.getElem_mem hk)
          generalize ps[k].1 = x at *
          generalize ps[k].2 = y at *
          have c0 : (w.alloc (.cells #[.string tx, .slice (some ⟨b, off, none⟩) ps.length c] 40)).cell? ⟨b, off + k * 2, none⟩ = some (.int .i64 x) := by rw [World.cell?_alloc_lt _ _ _ l0]; exact c0w
          have c1 : (w.alloc (.cells #[.string tx, .slice (some ⟨b, off, none⟩) ps.length c] 40)).cell? ⟨b, off + k * 2 + 1, none⟩ = some (.int .i64 y) := by rw [World.cell?_alloc_lt _ _ (⟨b, off + k * 2 + 1, none⟩ : Addr) l0]; exact c1w
          by_cases hx : x ≤ 0
          · rw [if_pos hx] at hpl
            have HE := Lib.hid (hq.out.trans hpl)
            clear hpl
            go_wp2_with fail
            go_quiet (fail)
            go_wp2_with fail
            go_ret
            exact ⟨by rw [HE.out, ← wrap_in, Int.zero_sub]; rfl, ((Bl.refl w).alloc _).drewN _ |>.below⟩
          · rw [if_neg hx] at hpl
            have HE := Lib.hid (hq.out.trans hpl)
            clear hpl
            go_wp2_with fail
            go_round
            case rel => exact ⟨k, by omega, by go_num, HE⟩
            case measure => simp [intOf]; try omega
  rcases Int.lt_trichotomy (tx.size : Int) i with hj | hj | hj
  · rcases Nat.eq_zero_or_pos tx.size with hz | hz
    · have e : max 0 (min (tx.size : Int) i) = 0 := by omega
      have hz' : (tx.size : Int) = 0 := by omega
      rw [e]
      clear e
      go_enter Tryd.func21, Tryd.ntmps21
      go_wp2_with fail
      go_loop [5] (fun v => ∃ m : Nat, m ≤ ps.length ∧ v = .int .i64 ((m : Int) - 1) ∧ Hid (plc ps 0 = plc (ps.take m) 0)) (fun v => (intOf v + 1).toNat)
      case atStart => exact ⟨ps.length, Nat.le_refl _, rfl, Lib.hid (by rw [List.take_of_length_le (Nat.le_refl _)])⟩
      case round =>
        obtain ⟨m, hm, rfl, hq⟩ := hrel
        rcases Nat.eq_zero_or_pos m with h0 | h0
        · subst h0
          have HE := Lib.hid (hq.out.trans (plc_nil _))
          go_wp2_with fail
          go_ret
          exact ⟨by rw [HE.out, wrap_zero]; rfl, (Below.refl _ _).alloc (Nat.le_refl _) _⟩
        · obtain ⟨k, rfl⟩ : ∃ k, m = k + 1 := ⟨m - 1, by omega⟩
          have hk : k < ps.length := by omega
          have ek : ((k + 1 : Nat) : Int) - 1 = k := by omega
          rw [ek]
          have hk' : (k : Int) < ps.length := by omega
          obtain ⟨b, off, rfl, c0w, c1w⟩ := piece_at HR.out hk
          have l0 := Byt.cell_lt c0w
          have hpl := plc_take hk 0
          obtain ⟨⟨x0, x1⟩, y0, y1⟩ := HI.out ps[k] (List.getElem_mem hk)
          generalize ps[k].1 = x at *
          generalize ps[k].2 = y at *
          have c0 : (w.alloc (.cells #[.string tx, .slice (some ⟨b, off, none⟩) ps.length c] 40)).cell? ⟨b, off + k * 2, none⟩ = some (.int .i64 x) := by rw [World.cell?_alloc_lt _ _ _ l0]; exact c0w
          have c1 : (w.alloc (.cells #[.string tx, .slice (some ⟨b, off, none⟩) ps.length c] 40)).cell? ⟨b, off + k * 2 + 1, none⟩ = some (.int .i64 y) := by rw [World.cell?_alloc_lt _ _ (⟨b, off + k * 2 + 1, none⟩ : Addr) l0]; exact c1w
          by_cases hx : x ≤ 0
          · rw [if_pos hx] at hpl
            have HE := Lib.hid (hq.out.trans hpl)
            clear hpl
            go_wp2_with fail
            go_quiet (fail)
            go_wp2_with fail
            go_ret
            exact ⟨by rw [HE.out, ← wrap_in, Int.zero_sub]; rfl, ((Bl.refl w).alloc _).drewN _ |>.below⟩
          · rw [if_neg hx] at hpl
            have HE := Lib.hid (hq.out.trans hpl)
            clear hpl
            go_wp2_with fail
            go_round
            case rel => exact ⟨k, by omega, by go_num, HE⟩
            case measure => simp [intOf]; try omega
    · have e : max 0 (min (tx.size : Int) i) = tx.size := by omega
      have hz' : 0 < (tx.size : Int) := by omega
      rw [e]
      clear e
      go_enter Tryd.func21, Tryd.ntmps21
      go_wp2_with fail
      go_loop [5] (fun v => ∃ m : Nat, m ≤ ps.length ∧ v = .int .i64 ((m : Int) - 1) ∧ Hid (plc ps (tx.size : Int) = plc (ps.take m) (tx.size : Int))) (fun v => (intOf v + 1).toNat)
      case atStart => exact ⟨ps.length, Nat.le_refl _, rfl, Lib.hid (by rw [List.take_of_length_le (Nat.le_refl _)])⟩
      case round =>
        obtain ⟨m, hm, rfl, hq⟩ := hrel
        rcases Nat.eq_zero_or_pos m with h0 | h0
        · subst h0
          have HE := Lib.hid (hq.out.trans (plc_nil _))
          go_wp2_with fail
          go_ret
          exact ⟨by rw [HE.out, wrap_zero]; rfl, (Below.refl _ _).alloc (Nat.le_refl _) _⟩
        · obtain ⟨k, rfl⟩ : ∃ k, m = k + 1 := ⟨m - 1, by omega⟩
          have hk : k < ps.length := by omega
          have ek : ((k + 1 : Nat) : Int) - 1 = k := by omega
          rw [ek]
          have hk' : (k : Int) < ps.length := by omega
          obtain ⟨b, off, rfl, c0w, c1w⟩ := piece_at HR.out hk
          have l0 := Byt.cell_lt c0w
          have hpl := plc_take hk (tx.size : Int)
          obtain ⟨⟨x0, x1⟩, y0, y1⟩ := HI.out ps[k] (List.getElem_mem hk)
          generalize ps[k].1 = x at *
          generalize ps[k].2 = y at *
          have c0 : (w.alloc (.cells #[.string tx, .slice (some ⟨b, off, none⟩) ps.length c] 40)).cell? ⟨b, off + k * 2, none⟩ = some (.int .i64 x) := by rw [World.cell?_alloc_lt _ _ _ l0]; exact c0w
          have c1 : (w.alloc (.cells #[.string tx, .slice (some ⟨b, off, none⟩) ps.length c] 40)).cell? ⟨b, off + k * 2 + 1, none⟩ = some (.int .i64 y) := by rw [World.cell?_alloc_lt _ _ (⟨b, off + k * 2 + 1, none⟩ : Addr) l0]; exact c1w
          by_cases hx : x ≤ (tx.size : Int)
          · rw [if_pos hx] at hpl
            have HE := Lib.hid (hq.out.trans hpl)
            clear hpl
            go_wp2_with fail
            go_quiet (fail)
            go_wp2_with fail
            go_ret
            exact ⟨by rw [HE.out, ← wrap_in]; rfl, ((Bl.refl w).alloc _).drewN _ |>.below⟩
          · rw [if_neg hx] at hpl
            have HE := Lib.hid (hq.out.trans hpl)
            clear hpl
            go_wp2_with fail
            go_round
            case rel => exact ⟨k, by omega, by go_num, HE⟩
            case measure => simp [intOf]; try omega
  · have e : max 0 (min (tx.size : Int) i) = i := by omega
    rw [e]
    clear e
    subst hj
    go_enter Tryd.func21, Tryd.ntmps21
    go_wp2_with fail
    go_loop [5] (fun v => ∃ m : Nat, m ≤ ps.length ∧ v = .int .i64 ((m : Int) - 1) ∧ Hid (plc ps (tx.size : Int) = plc (ps.take m) (tx.size : Int))) (fun v => (intOf v + 1).toNat)
    case atStart => exact ⟨ps.length, Nat.le_refl _, rfl, Lib.hid (by rw [List.take_of_length_le (Nat.le_refl _)])⟩
    case round =>
      obtain ⟨m, hm, rfl, hq⟩ := hrel
      rcases Nat.eq_zero_or_pos m with h0 | h0
      · subst h0
        have HE := Lib.hid (hq.out.trans (plc_nil _))
        go_wp2_with fail
        go_ret
        exact ⟨by rw [HE.out, wrap_zero]; rfl, (Below.refl _ _).alloc (Nat.le_refl _) _⟩
      · obtain ⟨k, rfl⟩ : ∃ k, m = k + 1 := ⟨m - 1, by omega⟩
        have hk : k < ps.length := by omega
        have ek : ((k + 1 : Nat) : Int) - 1 = k := by omega
        rw [ek]
        have hk' : (k : Int) < ps.length := by omega
        obtain ⟨b, off, rfl, c0w, c1w⟩ := piece_at HR.out hk
        have l0 := Byt.cell_lt c0w
        have hpl := plc_take hk (tx.size : Int)
        obtain ⟨⟨x0, x1⟩, y0, y1⟩ := HI.out ps[k] (List.getElem_mem hk)
        generalize ps[k].1 = x at *
        generalize ps[k].2 = y at *
        have c0 : (w.alloc (.cells #[.string tx, .slice (some ⟨b, off, none⟩) ps.length c] 40)).cell? ⟨b, off + k * 2, none⟩ = some (.int .i64 x) := by rw [World.cell?_alloc_lt _ _ _ l0]; exact c0w
        have c1 : (w.alloc (.cells #[.string tx, .slice (some ⟨b, off, none⟩) ps.length c] 40)).cell? ⟨b, off + k * 2 + 1, none⟩ = some (.int .i64 y) := by rw [World.cell?_alloc_lt _ _ (⟨b, off + k * 2 + 1, none⟩ : Addr) l0]; exact c1w
        by_cases hx : x ≤ (tx.size : Int)
        · rw [if_pos hx] at hpl
          have HE := Lib.hid (hq.out.trans hpl)
          clear hpl
          go_wp2_with fail
          go_quiet (fail)
          go_wp2_with fail
          go_ret
          exact ⟨by rw [HE.out, ← wrap_in]; rfl, ((Bl.refl w).alloc _).drewN _ |>.below⟩
        · rw [if_neg hx] at hpl
          have HE := Lib.hid (hq.out.trans hpl)
          clear hpl
          go_wp2_with fail
          go_round
          case rel => exact ⟨k, by omega, by go_num, HE⟩
          case measure => simp [intOf]; try omega
  · have e : max 0 (min (tx.size : Int) i) = i := by omega
    rw [e]
    clear e
    go_enter Tryd.func21, Tryd.ntmps21
    go_wp2_with fail
    go_loop [5] (fun v => ∃ m : Nat, m ≤ ps.length ∧ v = .int .i64 ((m : Int) - 1) ∧ Hid (plc ps i = plc (ps.take m) i)) (fun v => (intOf v + 1).toNat)
    case atStart => exact ⟨ps.length, Nat.le_refl _, rfl, Lib.hid (by rw [List.take_of_length_le (Nat.le_refl _)])⟩
    case round =>
      obtain ⟨m, hm, rfl, hq⟩ := hrel
      rcases Nat.eq_zero_or_pos m with h0 | h0
      · subst h0
        have HE := Lib.hid (hq.out.trans (plc_nil _))
        go_wp2_with fail
        go_ret
        exact ⟨by rw [HE.out, wrap_zero]; rfl, (Below.refl _ _).alloc (Nat.le_refl _) _⟩
      · obtain ⟨k, rfl⟩ : ∃ k, m = k + 1 := ⟨m - 1, by omega⟩
        have hk : k < ps.length := by omega
        have ek : ((k + 1 : Nat) : Int) - 1 = k := by omega
        rw [ek]
        have hk' : (k : Int) < ps.length := by omega
        obtain ⟨b, off, rfl, c0w, c1w⟩ := piece_at HR.out hk
        have l0 := Byt.cell_lt c0w
        have hpl := plc_take hk i
        obtain ⟨⟨x0, x1⟩, y0, y1⟩ := HI.out ps[k] (List.getElem_mem hk)
        generalize ps[k].1 = x at *
        generalize ps[k].2 = y at *
        have c0 : (w.alloc (.cells #[.string tx, .slice (some ⟨b, off, none⟩) ps.length c] 40)).cell? ⟨b, off + k * 2, none⟩ = some (.int .i64 x) := by rw [World.cell?_alloc_lt _ _ _ l0]; exact c0w
        have c1 : (w.alloc (.cells #[.string tx, .slice (some ⟨b, off, none⟩) ps.length c] 40)).cell? ⟨b, off + k * 2 + 1, none⟩ = some (.int .i64 y) := by rw [World.cell?_alloc_lt _ _ (⟨b, off + k * 2 + 1, none⟩ : Addr) l0]; exact c1w
        by_cases hx : x ≤ i
        · rw [if_pos hx] at hpl
          have HE := Lib.hid (hq.out.trans hpl)
          clear hpl
          go_wp2_with fail
          go_quiet (fail)
          go_wp2_with fail
          go_ret
          exact ⟨by rw [HE.out, ← wrap_in]; rfl, ((Bl.refl w).alloc _).drewN _ |>.below⟩
        · rw [if_neg hx] at hpl
          have HE := Lib.hid (hq.out.trans hpl)
          clear hpl
          go_wp2_with fail
          go_round
          case rel => exact ⟨k, by omega, by go_num, HE⟩
          case measure => simp [intOf]; try omega
end Go.Proofs.YtplobfnljlnkkaaDoor.Fld
