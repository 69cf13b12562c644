/- Contract of the document's SameLines (errandref15), at lines that read the same. -/
import Derived.Test.YtplobfnljlnkkaaDoorFldRefU
import Derived.BigQuiet
import Derived.Deep.QuietTactic
set_option linter.unusedVariables false
namespace Go.Proofs.YtplobfnljlnkkaaDoor.Fld
open Go.RowKit Go.Deep Go.Proofs.YtplobfnljlnkkaaDoor.Byt Go.Proofs.YtplobfnljlnkkaaDoor.Utf Go.Proofs.YtplobfnljlnkkaaDoor.Tre

/-- A line at its place: its text's cell, its pieces' cell and the pieces' cells. -/
theorem line_at {w : World} {tL tP : TypeId} {ls : List PL} {a : Option Addr} {c : Nat} (h : Rd w (lsD tL tP ls) (.slice a ls.length c)) {i : Nat} (hi : i < ls.length) : ∃ b off, a = some ⟨b, off, none⟩ ∧ w.cell? ⟨b, off + i * 2, none⟩ = some (.string ⟨ls[i].t.toArray⟩) ∧
    ∃ a' c', w.cell? ⟨b, off + i * 2 + 1, none⟩ = some (.slice a' ls[i].ps.length c') ∧ Rd w (pD tP ls[i].ps) (.slice a' ls[i].ps.length c') := by
  obtain ⟨a', c', hv, hc⟩ := lines_at h
  obtain ⟨b, off, rfl, hb, hcell⟩ := hc (by omega)
  obtain ⟨h1, u, h2, h3⟩ := hcell i hi
  obtain ⟨a2, c2, rfl, _⟩ := pieces_at h3
  injection hv with e1 e2 e3
  subst e1
  exact ⟨b, off, rfl, h1, a2, c2, h2, h3⟩
theorem piece_at {w : World} {tP : TypeId} {ps : List (Int × Int)} {a : Option Addr} {c : Nat} (h : Rd w (pD tP ps) (.slice a ps.length c)) {i : Nat} (hi : i < ps.length) : ∃ b off, a = some ⟨b, off, none⟩ ∧ w.cell? ⟨b, off + i * 2, none⟩ = some (.int .i64 ps[i].1) ∧ w.cell? ⟨b, off + i * 2 + 1, none⟩ = some (.int .i64 ps[i].2) := by
  obtain ⟨a', c', hv, hc⟩ := pieces_at h
  obtain ⟨b, off, rfl, hb, hcell⟩ := hc (by omega)
  injection hv with e1 e2 e3
  subst e1
  exact ⟨b, off, rfl, (hcell i hi).1, (hcell i hi).2⟩
/-- Lines that may be walked over: not too many. -/
def Few (ls : List PL) : Prop := ls.length ≤ 10000 ∧ ∀ l ∈ ls, l.ps.length ≤ 10000
set_option maxRecDepth 20000 in
set_option maxHeartbeats 1000000 in
theorem same_any (ls : List PL) (hf : Few ls) (a b : Option Addr) (c d : Nat) (w : World) (ha : Rd w (lsD 40 60 ls) (.slice a ls.length c)) (hb : Rd w (lsD 40 60 ls) (.slice b ls.length d)) :
    Calls Tryd.prog 11 #[.slice a ls.length c, .slice b ls.length d] w fun r w' => r = .returned (.bool true) ∧ Below w.heap.size w w' := by
  have HA := Lib.hid ha
  have HB := Lib.hid hb
  have HF := Lib.hid hf
  have hn := hf.1
  clear ha hb hf
  have tn : ((ls.length : Int) != ls.length) = false := by simp
  go_enter Tryd.func11, Tryd.ntmps11
  go_wp2_with fail
  go_loopw [5] (fun i wr => ∃ k : Nat, k ≤ ls.length ∧ i = .int .i64 k ∧ Hid (Bl w wr)) (fun i _ => ls.length - (intOf i).toNat)
  case atStart => exact ⟨0, Nat.zero_le _, rfl, Lib.hid (Bl.refl w)⟩
  case round =>
    obtain ⟨i, hi, rfl, hbl⟩ := hrel
    by_cases h : i < ls.length
    · have h' : (i : Int) < ls.length := by omega
      obtain ⟨ba, oa, rfl, a0, pa, ca, a1, pra⟩ := line_at (HA.out.call hbl.out.below) h
      obtain ⟨bb, ob, rfl, b0, pb, cb, b1, prb⟩ := line_at (HB.out.call hbl.out.below) h
      have hm := HF.out.2 ls[i] (List.getElem_mem h)
      have PA := Lib.hid pra
      have PB := Lib.hid prb
      generalize ByteArray.mk ls[i].t.toArray = tx at *
      generalize ls[i].ps = ps at *
      have tm : ((ps.length : Int) != ps.length) = false := by simp
      have tt : (tx.toList != tx.toList) = false := by simp
      have Bq := fun q => Lib.hid (hbl.out.drewN q)
      clear pra prb
      go_wp2_with fail
      have l1 := Byt.cell_lt a1
      have l2 := Byt.cell_lt b1
      have A1 := Lib.hid a1
      have B1 := Lib.hid b1
      go_quiet (fail)
      go_wp2_with fail
      clear a0 a1 b0 b1
      go_loopw [6] (fun q wq => ∃ k : Nat, k ≤ ps.length ∧ q = .int .i64 k ∧ Hid (Bl wr wq)) (fun q _ => ps.length - (intOf q).toNat)
      case atStart => exact ⟨0, Nat.zero_le _, rfl, Lib.hid ((Bl.refl wr).drewN _)⟩
      case round =>
        obtain ⟨k, hk, rfl, hbq⟩ := hrel
        have a1 := (hbq.out.below.cell (p := ⟨ba, oa + i * 2 + 1, none⟩) l1).trans A1.out
        have b1 := (hbq.out.below.cell (p := ⟨bb, ob + i * 2 + 1, none⟩) l2).trans B1.out
        by_cases hlt : k < ps.length
        · have hk' : (k : Int) < ps.length := by omega
          obtain ⟨bp, op, rfl, p0, p1⟩ := piece_at (PA.out.call hbq.out.below) hlt
          obtain ⟨bs, os, rfl, s0, s1⟩ := piece_at (PB.out.call hbq.out.below) hlt
          generalize ps[k].1 = x at *
          generalize ps[k].2 = y at *
          have tx' : (x != x) = false := by simp
          have ty' : (y != y) = false := by simp
          have Bp := fun q => Lib.hid (hbq.out.drewN q)
          go_wp2_with fail
          go_quiet (fail)
          go_wp2_with fail
          go_roundw
          case rel => exact ⟨k + 1, by omega, by go_num, Bp _⟩
          case measure => simp [intOf]; omega
        · obtain rfl : k = ps.length := by omega
          go_wp2_with fail
          go_roundw
          case rel => exact ⟨i + 1, by omega, by go_num, Lib.hid (hbl.out.call hbq.out.below)⟩
          case measure => simp [intOf]; omega
    · obtain rfl : i = ls.length := by omega
      go_wp2_with fail
      go_ret
      exact ⟨rfl, hbl.out.below⟩
end Go.Proofs.YtplobfnljlnkkaaDoor.Fld
