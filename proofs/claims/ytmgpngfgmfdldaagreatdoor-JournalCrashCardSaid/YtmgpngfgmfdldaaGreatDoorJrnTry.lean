/- Tries that come in; contracts of many and, of lists that differ in length, of SameTexts. -/
import Derived.Test.YtmgpngfgmfdldaaGreatDoorDskB
namespace Go.Proofs.YtmgpngfgmfdldaaGreatDoor.Jrn
open Go.RowKit Go.Proofs.YtmgpngfgmfdldaaGreatDoor.Dsk

/-- A try: a text, a fuse, and what is left of each write. -/
structure Tr where
  t : ByteArray
  f : Nat
  cs : List UInt8
def UV (l : List UInt8) : List Value := l.map fun b => Value.int .u8 b.toNat
def ints (l : List UInt8) : List Int := l.map fun b => ((b.toNat : Nat) : Int)
theorem UV_length (l : List UInt8) : (UV l).length = l.length := by simp [UV]
theorem ints_length (l : List UInt8) : (ints l).length = l.length := by simp [ints]
/-- A slice reads as these tries. -/
def TrV (w : World) (A : Option Addr) (n : Nat) (L : List Tr) : Prop :=
  L.length = n ∧ (0 < n → ∃ b off, A = some ⟨b, off, none⟩ ∧ b < w.heap.size ∧ ∀ i, (hi : i < L.length) → w.cell? ⟨b, off + i * 3, none⟩ = some (.string L[i].t) ∧ w.cell? ⟨b, off + i * 3 + 1, none⟩ = some (.int .u8 L[i].f) ∧ L[i].f < 256 ∧
    ∃ a m c, w.cell? ⟨b, off + i * 3 + 2, none⟩ = some (.slice a m c) ∧ RV w a m 1 (UV L[i].cs) ∧ m ≤ c)
theorem TrV.below {w w' : World} {A : Option Addr} {n : Nat} {L : List Tr} (h : TrV w A n L) (hb : Below w.heap.size w w') : TrV w' A n L :=
  ⟨h.1, fun hn => by
    obtain ⟨b, off, e, hl, hc⟩ := h.2 hn
    refine ⟨b, off, e, Nat.lt_of_lt_of_le hl hb.size, fun i hi => ?_⟩
    obtain ⟨h1, h2, h3, a, m, c, h4, h5, h6⟩ := hc i hi
    exact ⟨(hb.cell (p := ⟨b, off + i * 3, none⟩) hl).trans h1, (hb.cell (p := ⟨b, off + i * 3 + 1, none⟩) hl).trans h2, h3, a, m, c, (hb.cell (p := ⟨b, off + i * 3 + 2, none⟩) hl).trans h4, h5.below hb, h6⟩⟩

set_option maxHeartbeats 1000000 in
theorem many_any (A : Option Addr) (n c : Nat) (L : List UInt8) (w : World) (hL : RV w A n 1 (UV L)) (hn : (n : Int) ≤ 100) :
    Calls Tryz.prog 28 #[.slice A n c] w fun r w' => ∃ B d, r = .returned (.slice B n d) ∧ RV w' B n 1 (IV (ints L)) ∧ Below w.heap.size w w' := by
  have HCl := Lib.hid (by have := hL.1; rw [UV_length] at this; omega : L.length = n)
  have HCu := Lib.hid hL
  clear hL
  go_enter Tryz.func28, Tryz.ntmps28
  go_wp2_with fail
  go_loopw [3, 4] (fun s3 s4 wr => ∃ k : Nat, k ≤ n ∧ s4 = .int .i64 k ∧ Hid (Below w.heap.size w wr ∧ IRow wr w.heap.size s3 (ints (L.take k)))) (fun _ s4 _ => n - (intOf s4).toNat)
  case atStart => exact ⟨0, Nat.zero_le _, rfl, Lib.hid ⟨Below.refl _ _, by simpa [ints] using IRow.nil w w.heap.size⟩⟩
  case round =>
    obtain ⟨k, hk, rfl, HK⟩ := hrel
    obtain ⟨av, capv, rfl, hrv⟩ := HK.out.2.val
    by_cases hkl : k < n
    · clear hrv
      have hkx : k < L.length := by have := HCl.out; omega
      obtain ⟨bc, offc, rfl, hbc, hcc2⟩ := HCu.out.2 (by omega)
      have hck2 := hcc2 k (by rw [UV_length]; exact hkx)
      have hck3 := (HK.out.1.cell (p := ⟨bc, offc + k, none⟩) hbc).trans hck2
      rw [show (UV L)[k]'(by rw [UV_length]; exact hkx) = .int .u8 L[k].toNat from by simp [UV]] at hck3
      have hbc6 : bc < wr.heap.size := Nat.lt_of_lt_of_le hbc HK.out.1.size
      have HTk := Lib.hid (show ints (L.take (k + 1)) = ints (L.take k) ++ [((L[k].toNat : Nat) : Int)] from by rw [List.take_succ_eq_append_getElem hkx]; unfold ints; rw [List.map_append]; rfl)
      have hlen : (ints (L.take k)).length = k := by simp [ints]; omega
      have hu8 : L[k].toNat < 256 := UInt8.toNat_lt _
      generalize L[k].toNat = z at *
      have hxc : (wr.alloc (.cells #[.int .i64 (z : Int)] 3)).cell? ⟨wr.heap.size, 0, none⟩ = some (.int .i64 (z : Int)) := by simp [go_sem]
      have hrw := HK.out.2.call (new1 wr (.cells #[.int .i64 (z : Int)] 3))
      obtain ⟨v', w', hap, hI', hgr, -⟩ := hrw.append ⟨wr.heap.size, 0, none⟩ 1 z hxc (by omega) (by have := HK.out.1.size; simp; omega)
      have HK5 : Hid (Below w.heap.size w w' ∧ IRow w' w.heap.size v' (ints (L.take (k + 1)))) := Lib.hid ⟨(HK.out.1.push _).grown hgr (by have := HK.out.1.size; simp; omega) (fun g hg => (hrw.lt g hg).1), by rw [HTk.out]; exact hI'⟩
      have HAP := Lib.hid hap
      rw [hlen] at HAP ⊢
      clear hap hI' hgr hxc hrw hck2 hcc2 HTk HK
      go_wp2_with (at_builtin; refine wpList_append_run rfl (.tmp 11) (.tmp 17) 63 63 rfl _ _ rfl rfl v' w' HAP.out ?_)
      go_roundw
      case rel => exact ⟨k + 1, by omega, by go_num, HK5⟩
      case measure => simp [intOf]; omega
    · obtain rfl : k = n := by omega
      have htk : L.take k = L := List.take_of_length_le (by have := HCl.out; omega)
      have hlk : (ints L).length = k := by rw [ints_length]; exact HCl.out
      rw [htk] at HK hrv ⊢
      rw [hlk] at hrv ⊢
      have HRv := Lib.hid hrv
      clear hrv htk hlk
      go_wp2_with fail
      refine bodyPost_ret (v := .slice av k capv) (by simp [results, Tryz.results28, go_sem]) rfl ?_
      exact ⟨_, _, rfl, HRv.out, HK.out.1⟩

set_option maxHeartbeats 1000000 in
theorem same_no (A : Option Addr) (m c : Nat) (B : Option Addr) (m' c' : Nat) (w : World) (hne : ¬ (m : Int) = m') :
    Calls Tryz.prog 15 #[.slice A m c, .slice B m' c'] w fun r w' => r = .returned (.bool false) ∧ w = w' := by
  go_enter Tryz.func15, Tryz.ntmps15
  go_wp2_with fail
  go_ret
  exact ⟨rfl, rfl⟩

end Go.Proofs.YtmgpngfgmfdldaaGreatDoor.Jrn
