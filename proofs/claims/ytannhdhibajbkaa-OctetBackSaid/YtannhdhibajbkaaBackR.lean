/- The contract of 'reads' of the statement OctetBack. -/
import Derived.Test.YtannhdhibajbkaaBackP
import Derived.Test.YtannhdhibajbkaaAwakeW
import Derived.Test.YtannhdhibajbkaaArgs
namespace Go.Proofs.Ytannhdhibajbkaa
open Go.RowKit Go.Deep Go.Lib

theorem fromN_drop (s : ByteArray) (ls : List ByteArray) (ns : List Nat) (k : Nat) (hk : k < ns.length) (p e : Int) (R : Bool) (h : fromN s ls (ns.drop k) k p e = R) :
    (if (numR s p e (4 + k % 4 : Nat)).2.1 = 0 ∧ (numR s p e (4 + k % 4 : Nat)).2.2 ≠ ns[k] then false else fromN s ls (ns.drop (k + 1)) (k + 1) (numR s p e (4 + k % 4 : Nat)).1 (numR s p e (4 + k % 4 : Nat)).2.1) = R := by
  rw [List.drop_eq_getElem_cons hk] at h
  exact h
theorem fromT_drop (s : ByteArray) (ls : List ByteArray) (k : Nat) (hk : k < ls.length) (p e : Int) (R : Bool) (h : fromT s (ls.drop k) p e = R) :
    (if (takeR s p e).2.1 = 0 ∧ (takeR s p e).2.2 ≠ ls[k] then false else fromT s (ls.drop (k + 1)) (takeR s p e).1 (takeR s p e).2.1) = R := by
  rw [List.drop_eq_getElem_cons hk] at h
  exact h

theorem bytes_ne {a b : ByteArray} (h : ¬ a = b) : (!a.toList == b.toList) = true := by
  have : ¬ a.toList = b.toList := fun e => h (by
    rw [ByteArray.toList_eq, ByteArray.toList_eq] at e
    exact ByteArray.ext (Array.toList_inj.1 e))
  simpa using this

theorem set3_alloc {a w : World} {g : Nat} {x y z : Value} (hb : Below a.heap.size a w) (h : Box w g x y z) (hg : g < w.heap.size) (ha : a.heap.size ≤ g) (x' y' z' : Value) (o : Obj) :
    Box ((((w.setCell ⟨g, 0, none⟩ x').setCell ⟨g, 1, none⟩ y').setCell ⟨g, 2, none⟩ z').alloc o) g x' y' z' ∧ Below a.heap.size a ((((w.setCell ⟨g, 0, none⟩ x').setCell ⟨g, 1, none⟩ y').setCell ⟨g, 2, none⟩ z').alloc o) ∧
      g < ((((w.setCell ⟨g, 0, none⟩ x').setCell ⟨g, 1, none⟩ y').setCell ⟨g, 2, none⟩ z').alloc o).heap.size := by
  have e : (((w.setCell ⟨g, 0, none⟩ x').setCell ⟨g, 1, none⟩ y').setCell ⟨g, 2, none⟩ z').heap.size = w.heap.size := by simp [World.setCell]
  refine ⟨(h.set3 _ _ _).alloc (by rw [e]; exact hg) _, ?_, by rw [World.size_alloc, e]; omega⟩
  exact (((hb.setCell (p := ⟨g, 0, none⟩) ha _).setCell (p := ⟨g, 1, none⟩) ha _).setCell (p := ⟨g, 2, none⟩) ha _).push _

set_option maxRecDepth 100000 in
set_option maxHeartbeats 2000000 in
theorem reads_any (s : ByteArray) (a1 a2 : Option Addr) (n1 c1 n2 c2 : Nat) (ns : List Nat) (ls : List ByteArray) (w : World) (hs : s.size ≤ maxLen)
    (hN : ReadsV w a1 n1 (ns.map fun n : Nat => Value.int .u32 (n : Int))) (hL : ReadsV w a2 n2 (ls.map .string)) (h1 : n1 ≤ 20) (h2 : n2 ≤ 10) (hn : ∀ n ∈ ns, n < 4294967296) :
    Calls Try.prog 25 #[.string s, .slice a1 n1 c1, .slice a2 n2 c2] w fun r w' => r = .returned (.bool (fromN s ls ns 0 0 0)) ∧ Below w.heap.size w w' := by
  obtain ⟨R, hR⟩ : ∃ R, fromN s ls ns 0 0 0 = R := ⟨_, rfl⟩
  rw [hR]
  have HRs := Lib.hid hR
  have HN := Lib.hid hN
  have HL := Lib.hid hL
  have Hn := Lib.hid hn
  clear hR hN hL hn
  go_enter Try.func25, Try.ntmps25
  go_wp2_with fail
  refine (new_any s _).mono ?_
  rintro r w1 ⟨rfl, hb1⟩
  have HB0 := Lib.hid (hb1.push (B38 s 0 0))
  have HX0 := Lib.hid (Box.new w1 (.string s) (.int .i64 0) (.int .i64 0) 38)
  have hwz : w.heap.size ≤ w1.heap.size := hb1.size
  clear hb1
  go_wp2
  go_loopw [8] (fun i wr => ∃ (k : Nat) (p e : Int), k ≤ n1 ∧ i = .int .i64 k ∧ Box wr w1.heap.size (.string s) (.int .i64 p) (.int .i64 e) ∧ Below w.heap.size w wr ∧ w1.heap.size < wr.heap.size ∧ Hid (fromN s ls (ns.drop k) k p e = R)) (fun i _ => n1 - (intOf i).toNat)
  case atStart => exact ⟨0, 0, 0, by omega, rfl, HX0.out, HB0.out, by simp, HRs⟩
  case round =>
    obtain ⟨k, p, e, hk, rfl, hbox, hbel, hz5, HF⟩ := hrel
    by_cases hlt : k < n1
    · have HBel := Lib.hid hbel
      have HBox := Lib.hid hbox
      obtain ⟨x0, x1, x2, y0, y1, y2⟩ := hbox
      obtain ⟨b, off, rfl, hlb, hc⟩ := (HN.out.below hbel).2 (by omega)
      have hkl : k < ns.length := by have := HN.out.1; simp at this; omega
      have hck := hc k (by simpa using hkl)
      rw [List.getElem_map] at hck
      have hz0 := Hn.out ns[k] (List.getElem_mem hkl)
      have HF2 := Lib.hid (fromN_drop s ls ns k hkl p e R HF.out)
      have HM := Lib.hid (fun W => num_any s p e (4 + k % 4 : Nat) W hs)
      rw [show ((4 + k % 4 : Nat) : Int) = 4 + (k : Int) % 4 from by omega] at HM HF2
      generalize ns[k] = z at *
      generalize hNR : numR s p e (4 + (k : Int) % 4) = t at *
      obtain ⟨q, f, m⟩ := t
      dsimp only at HM HF2
      clear hc hbel hNR HF
      go_wp2_with fail
      refine (HM.out _).mono ?_
      rintro r w2 ⟨rfl, hb2⟩
      have hz2 : w1.heap.size < w2.heap.size := by have := hb2.size; omega
      have HX2 := Lib.hid (HBox.out.below hb2 hz5)
      have HB2 := Lib.hid (HBel.out.call hb2)
      have hck2 := (hb2.cell (p := ⟨b, off + k, none⟩) hlb).trans hck
      clear hb2 hck x0 x1 x2 y0 y1 y2 HBel HBox HM
      obtain ⟨x0, x1, x2, y0, y1, y2⟩ := HX2.out
      have hne : ¬ w1.heap.size = w2.heap.size := by omega
      have hlb2 : b < w2.heap.size := cell_lt hck2
      have hzz : (z : Int) ≤ 4294967295 := by omega
      by_cases hf : f = 0
      · subst hf
        by_cases hm : m = z
        · subst hm
          go_wp2_with fail
          go_roundw
          case rel =>
            obtain ⟨m1, m2, m3⟩ := set3_alloc HB2.out HX2.out hz2 hwz (.string s) (.int .i64 q) (.int .i64 0) (B38 s q 0)
            exact ⟨k + 1, q, 0, by omega, by go_num, m1, m2, m3, Lib.hid (by rw [← HF2.out]; simp)⟩
          case measure => simp [intOf]; omega
        · have hmb : (m != (z : Int)) = true := by simpa using hm
          have hRf : R = false := by rw [← HF2.out]; simp [hm]
          subst hRf
          go_wp2_with fail
          go_ret
          exact ⟨rfl, HB2.out.push _⟩
      · have hfb : (f == 0) = false := by simpa using hf
        go_wp2_with fail
        go_roundw
        case rel =>
          obtain ⟨m1, m2, m3⟩ := set3_alloc HB2.out HX2.out hz2 hwz (.string s) (.int .i64 q) (.int .i64 f) (B38 s q f)
          exact ⟨k + 1, q, f, by omega, by go_num, m1, m2, m3, Lib.hid (by rw [← HF2.out]; simp [hf])⟩
        case measure => simp [intOf]; omega
    · have HT : Hid (fromT s ls p e = R) := by
        have h0 : ns.drop k = [] := List.drop_of_length_le (by have := HN.out.1; simp at this; omega)
        have h1 := HF.out
        rw [h0] at h1
        exact h1
      clear HF
      obtain ⟨wo, rfl⟩ : ∃ wo : World, wo = wr := ⟨_, rfl⟩
      have HBo := Lib.hid hbel
      have HXo := Lib.hid hbox
      clear hbel hbox HB0 HX0 HRs HN
      go_wp2_with fail
      go_loopw [11] (fun i wr => ∃ (j : Nat) (p e : Int), j ≤ n2 ∧ i = .int .i64 j ∧ Box wr w1.heap.size (.string s) (.int .i64 p) (.int .i64 e) ∧ Below w.heap.size w wr ∧ w1.heap.size < wr.heap.size ∧ Hid (fromT s (ls.drop j) p e = R)) (fun i _ => n2 - (intOf i).toNat)
      case atStart => exact ⟨0, p, e, by omega, rfl, HXo.out, HBo.out, hz5, HT⟩
      case round =>
        clear HT HXo HBo hz5
        obtain ⟨j, p, e, hj, rfl, hbox, hbel, hz5, HF⟩ := hrel
        by_cases hlt2 : j < n2
        · have HBel := Lib.hid hbel
          have HBox := Lib.hid hbox
          obtain ⟨x0, x1, x2, y0, y1, y2⟩ := hbox
          obtain ⟨b, off, rfl, hlb, hc⟩ := (HL.out.below hbel).2 (by omega)
          have hkl : j < ls.length := by have := HL.out.1; simp at this; omega
          have hck := hc j (by simpa using hkl)
          rw [List.getElem_map] at hck
          have HF2 := Lib.hid (fromT_drop s ls j hkl p e R HF.out)
          have HM := Lib.hid (fun W => take_any s p e W hs)
          generalize ls[j] = z at *
          generalize hNR : takeR s p e = t at *
          obtain ⟨q, f, u⟩ := t
          dsimp only at HM HF2
          clear hc hbel hNR HF
          go_wp2_with fail
          refine (HM.out _).mono ?_
          rintro r w2 ⟨rfl, hb2⟩
          have hz2 : w1.heap.size < w2.heap.size := by have := hb2.size; omega
          have HX2 := Lib.hid (HBox.out.below hb2 hz5)
          have HB2 := Lib.hid (HBel.out.call hb2)
          have hck2 := (hb2.cell (p := ⟨b, off + j, none⟩) hlb).trans hck
          clear hb2 hck x0 x1 x2 y0 y1 y2 HBel HBox HM
          obtain ⟨x0, x1, x2, y0, y1, y2⟩ := HX2.out
          have hne : ¬ w1.heap.size = w2.heap.size := by omega
          have hlb2 : b < w2.heap.size := cell_lt hck2
          by_cases hf : f = 0
          · subst hf
            by_cases hm : u = z
            · subst hm
              go_wp2_with fail
              go_roundw
              case rel =>
                obtain ⟨m1, m2, m3⟩ := set3_alloc HB2.out HX2.out hz2 hwz (.string s) (.int .i64 q) (.int .i64 0) (B38 s q 0)
                exact ⟨j + 1, q, 0, by omega, by go_num, m1, m2, m3, Lib.hid (by rw [← HF2.out]; simp)⟩
              case measure => simp [intOf]; omega
            · have hRf : R = false := by rw [← HF2.out]; simp [hm]
              subst hRf
              have hmb := bytes_ne hm
              go_wp2_with fail
              go_ret
              exact ⟨rfl, HB2.out.push _⟩
          · have hfb : (f == 0) = false := by simpa using hf
            go_wp2_with fail
            go_roundw
            case rel =>
              obtain ⟨m1, m2, m3⟩ := set3_alloc HB2.out HX2.out hz2 hwz (.string s) (.int .i64 q) (.int .i64 f) (B38 s q f)
              exact ⟨j + 1, q, f, by omega, by go_num, m1, m2, m3, Lib.hid (by rw [← HF2.out]; simp [hf])⟩
            case measure => simp [intOf]; omega
        · have HE : Hid ((endR s p e == 0) = R) := by
            have h0 : ls.drop j = [] := List.drop_of_length_le (by have := HL.out.1; simp at this; omega)
            have h1 := HF.out
            rw [h0] at h1
            exact h1
          have HBel := Lib.hid hbel
          clear HF hbel
          obtain ⟨x0, x1, x2, y0, y1, y2⟩ := hbox
          go_wp2_with fail
          refine (end_any s p e _ hs).mono ?_
          rintro r w2 ⟨rfl, hb2⟩
          have HB2 := Lib.hid (HBel.out.call hb2)
          clear hb2 HBel x0 x1 x2 y0 y1 y2
          generalize endR s p e = d at *
          go_wp2
          go_ret
          exact ⟨by rw [HE.out]; rfl, HB2.out⟩

end Go.Proofs.Ytannhdhibajbkaa
