/- Contracts of the document's Code, Place, Depth, Is. -/
import Derived.Test.YtihhdognjcmbkaaDoorFltSame
namespace Go.Proofs.YtihhdognjcmbkaaDoor.Flt
open Go.RowKit

/-- What the document's fault is, in memory. -/
structure DF (w : World) (a : Option Addr) (n : Nat) (zs : List Int) : Prop where
  rv : RV w a n 1 (IV zs)
  len : zs.length = n
  sm : Sm zs
theorem DF.call {w w' : World} {a : Option Addr} {n : Nat} {zs : List Int} (h : DF w a n zs) (hb : Below w.heap.size w w') : DF w' a n zs :=
  ⟨⟨h.rv.1, fun hn => by
    obtain ⟨b, off, e, hl, hc⟩ := h.rv.2 hn
    exact ⟨b, off, e, Nat.lt_of_lt_of_le hl hb.size, fun i hi => (hb.cell (p := ⟨b, off + i, none⟩) hl).trans (hc i hi)⟩⟩, h.len, h.sm⟩
/-- What the document tells of a fault. -/
def rcode (e : Int) (zs : List Int) : Int := if zs.length = 0 then 0 else e
def rplace (e : Int) (zs : List Int) : Int := if (e == 0) = true then 0 else zs.sum
def rdepth (e : Int) (zs : List Int) : Int := if (e == 0) = true then 0 else zs.length
theorem rcode_pl (e : Int) (zs : List Int) : (if pl e zs = [] then 0 else e) = rcode e zs := by
  unfold pl rcode
  by_cases he : (e == 0) = true
  · rw [if_pos he, if_pos rfl]
    have : e = 0 := by simpa using he
    subst this; split <;> rfl
  · rw [if_neg he]
    cases zs with
    | nil => rfl
    | cons z r => rw [if_neg (by simp), if_neg (by simp)]
theorem rplace_pl (e : Int) (zs : List Int) : (pl e zs).sum = rplace e zs := by
  unfold pl rplace
  by_cases he : (e == 0) = true
  · rw [if_pos he, if_pos he]; rfl
  · rw [if_neg he, if_neg he, List.sum_reverse]
theorem rdepth_pl (e : Int) (zs : List Int) : ((pl e zs).length : Int) = rdepth e zs := by
  unfold pl rdepth
  by_cases he : (e == 0) = true
  · rw [if_pos he, if_pos he]; rfl
  · rw [if_neg he, if_neg he, List.length_reverse]
abbrev D30 (e : Int) (a : Option Addr) (n c : Nat) : Value := .agg #[.int .i64 e, .slice a n c]

theorem rcode_any (e : Int) (a : Option Addr) (n c : Nat) (zs : List Int) (w : World) (hD : DF w a n zs) :
    Calls Tryd.prog 11 #[D30 e a n c] w fun r w' => r = .returned (.int .i64 (rcode e zs)) ∧ Below w.heap.size w w' := by
  have hl := hD.len
  unfold rcode
  rw [hl]
  clear hD hl
  by_cases h0 : n = 0
  · subst h0
    go_enter Tryd.func11, Tryd.ntmps11
    go_wp2
    go_ret
    exact ⟨rfl, new1 _ _⟩
  · have t0 : ((n : Int) == 0) = false := by rw [beq_eq_false_iff_ne]; omega
    rw [if_neg h0]
    go_enter Tryd.func11, Tryd.ntmps11
    go_wp2
    go_ret
    exact ⟨rfl, new1 _ _⟩
theorem rdepth_any (e : Int) (a : Option Addr) (n c : Nat) (zs : List Int) (w : World) (hD : DF w a n zs) :
    Calls Tryd.prog 15 #[D30 e a n c] w fun r w' => r = .returned (.int .i64 (rdepth e zs)) ∧ Below w.heap.size w w' := by
  have hl := hD.len
  unfold rdepth
  rw [hl]
  clear hD hl
  rcases h : (e == 0) with _ | _
  · go_enter Tryd.func15, Tryd.ntmps15
    go_wp2
    go_ret
    exact ⟨rfl, new1 _ _⟩
  · go_enter Tryd.func15, Tryd.ntmps15
    go_wp2
    go_ret
    exact ⟨rfl, new1 _ _⟩
theorem ris_any (e : Int) (a : Option Addr) (n c : Nat) (k : Int) (zs : List Int) (w : World) (hD : DF w a n zs) :
    Calls Tryd.prog 17 #[D30 e a n c, .int .i64 k] w fun r w' => r = .returned (.bool (rcode e zs == k)) ∧ Below w.heap.size w w' := by
  have H := Lib.hid (rcode_any e a n c zs (w.alloc (.cells #[.int .i64 e, .slice a n c] 30)) (hD.call (new1 _ _)))
  clear hD
  go_enter Tryd.func17, Tryd.ntmps17
  go_wp2_with (go_at_call 11; with_reducible refine (H.out).mono ?_; rintro r w1 ⟨rfl, hb⟩; have HB := Lib.hid ((Bl.refl w).call (new1 w _) |>.call hb); clear hb)
  go_ret
  exact ⟨rfl, HB.out.below⟩
set_option maxHeartbeats 1000000 in
theorem rplace_any (e : Int) (a : Option Addr) (n c : Nat) (zs : List Int) (w : World) (hD : DF w a n zs) :
    Calls Tryd.prog 13 #[D30 e a n c] w fun r w' => r = .returned (.int .i64 (rplace e zs)) ∧ Below w.heap.size w w' := by
  unfold rplace
  rcases h : (e == 0) with _ | _
  · have HD := Lib.hid (hD.call (new1 w (.cells #[.int .i64 e, .slice a n c] 30)))
    have hs := hD.sm
    have hn1 : (n : Int) ≤ 40 := by have := hs.1; have := hD.len; omega
    have HL := Lib.hid hD.len
    have HS := Lib.hid hs
    clear hD hs
    rw [if_neg (by simp)]
    go_enter Tryd.func13, Tryd.ntmps13
    go_wp2_with fail
    go_loopw [3, 4] (fun s i wr => ∃ k : Nat, (k : Int) ≤ n ∧ i = .int .i64 k ∧ s = .int .i64 (zs.take k).sum ∧ wr = w.alloc (.cells #[.int .i64 e, .slice a n c] 30)) (fun _ i _ => (n - intOf i).toNat)
    case atStart => exact ⟨0, by omega, rfl, rfl, rfl⟩
    case round =>
      obtain ⟨k, hk, rfl, rfl, rfl⟩ := hrel
      by_cases hlt : (k : Int) < n
      · have hl : k < zs.length := by have := HL.out; omega
        obtain ⟨b, off, rfl, hb, hc⟩ := HD.out.rv.2 (by omega)
        have hcell := hc k (by unfold IV; rw [List.length_map]; exact hl)
        have e2 : zs.take (k + 1) = zs.take k ++ [zs[k]] := List.take_succ_eq_append_getElem hl
        have e3 : (zs.take (k + 1)).sum = (zs.take k).sum + zs[k] := by rw [e2, List.sum_append, List.sum_cons, List.sum_nil, Int.add_zero]
        have e4 : (IV zs)[k]'(by unfold IV; rw [List.length_map]; exact hl) = .int .i64 zs[k] := by unfold IV; rw [List.getElem_map]
        rw [e4] at hcell
        obtain ⟨p0, p1, -⟩ := HS.out.part (List.take_append_drop (k + 1) zs).symm
        rw [e3] at p0 p1
        have E3 := Lib.hid e3
        clear hc e2 e3 e4 hb
        generalize (zs.take k).sum = s at *
        generalize zs[k] = z at *
        clear hl
        go_wp2_with fail
        go_roundw
        case rel => exact ⟨k + 1, by omega, by go_num, by rw [E3.out], trivial⟩
        case measure => simp [intOf]; omega
      · have HF := Lib.hid (show (zs.take k).sum = zs.sum by rw [List.take_of_length_le (by have := HL.out; omega)])
        go_wp2_with fail
        go_ret
        exact ⟨by rw [HF.out]; rfl, new1 _ _⟩
  · rw [if_pos rfl]
    go_enter Tryd.func13, Tryd.ntmps13
    go_wp2
    go_ret
    exact ⟨rfl, new1 _ _⟩
end Go.Proofs.YtihhdognjcmbkaaDoor.Flt
