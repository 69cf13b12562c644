/- The walk of SheetTorn. -/
import Derived.Test.YtaafkkmcpedeaaaTornP
import Derived.Test.YtaafkkmcpedeaaaAwake
import Derived.Test.YtaafkkmcpedeaaaDiskPlain
import Derived.Test.YtaafkkmcpedeaaaDiskNewD
import Derived.Test.YtaafkkmcpedeaaaDiskInts
import Derived.Test.YtaafkkmcpedeaaaDiskCrash
import Derived.Test.YtaafkkmcpedeaaaDiskNew
import Derived.Test.YtaafkkmcpedeaaaDiskSame
import Derived.Deep.QuietTactic
import Derived.BigQuiet
namespace Go.Proofs.Ytaafkkmcpedeaaa
open Go.RowKit Go.Proofs.Ytaafkkmcpedeaaa.Oct Go.Proofs.Ytaafkkmcpedeaaa.Dsk

/-- The device whose sector 0 reads as O, in its variable; nothing waits. -/
structure OldK (w wx : World) (b : Nat) (O : ByteArray) (A : Option Addr) (n c : Nat) (B : Option Addr) (m d : Nat) (S : List ByteArray) : Prop where
  bel : Below w.heap.size w wx
  st : St wx b A n c B m d (-1)
  dev : Dev wx A n c B m d (-1) S []
  fine : Fine S [] (-1) 0
  sec : secAt S 0 = O
  new : w.heap.size ≤ b

theorem OldK.call {w wx wy : World} {b : Nat} {O : ByteArray} {A : Option Addr} {n c : Nat} {B : Option Addr} {m d : Nat} {S : List ByteArray} (h : OldK w wx b O A n c B m d S) (hb : Below wx.heap.size wx wy) : OldK w wy b O A n c B m d S :=
  ⟨h.bel.call hb, h.st.call hb, h.dev.below hb, h.fine, h.sec, h.new⟩

theorem OldK.put {w wx : World} {b : Nat} {O : ByteArray} {A : Option Addr} {n c : Nat} {B : Option Addr} {m d : Nat} {S : List ByteArray} (h : OldK w wx b O A n c B m d S) (T : ByteArray) (hT : T.size = 64) :
    Calls Try.prog 18 #[DV A n c B m d (-1), .int .i64 0, .string T] wx (RetDE wx S [((0 : Int), T)] (-1) 0) :=
  put_yes A n c B m d (-1) S [] 0 T wx h.dev (by have := h.fine.putE (by omega) 0 (by omega) T hT; simpa using this)

theorem one_ok {S : List ByteArray} (h : Fine S [] (-1) 0) (T : ByteArray) (hT : T.size = 64) : [((0 : Int), T)].all (wrOk S.length) = true := by
  have hl := h.len
  simp only [List.all_cons, List.all_nil, Bool.and_true]
  rw [wrOk_iff, hl]
  exact ⟨Int.le_refl 0, show (0 : Int) < ((16 : Nat) : Int) by decide, hT⟩
theorem one_chk {S : List ByteArray} (h : Fine S [] (-1) 0) (T : ByteArray) (hT : T.size = 64) : chk S [((0 : Int), T)] (-1) = 0 := by
  obtain ⟨⟨h1, h2, h3⟩, h4, h5, h6⟩ := chk_ok h.ok
  exact chk_of h1 h2 h3 h4 (by simp) (one_ok h T hT)
theorem one_flushed {S : List ByteArray} (h : Fine S [] (-1) 0) (T : ByteArray) (hT : T.size = 64) : Fine (goAll S [((0 : Int), T)] fun _ => 64) [] (-1) 0 ∧ secAt (goAll S [((0 : Int), T)] fun _ => 64) 0 = T := by
  obtain ⟨⟨h1, h2, h3⟩, h4, h5, h6⟩ := chk_ok h.ok
  have hl := h.len
  obtain ⟨g1, g2⟩ := goAll_all (c := fun _ => 64) h4 (one_ok h T hT) (fun _ => Nat.le_refl _)
  refine ⟨⟨chk_of (by omega) (by omega) h3 g1 (by simp) (by simp), by omega, by simp⟩, ?_⟩
  rw [goAll_read h4 (one_ok h T hT) 0 (by omega)]
  rfl

theorem OldK.set {w wx : World} {b : Nat} {O : ByteArray} {A : Option Addr} {n c : Nat} {B : Option Addr} {m d : Nat} {S : List ByteArray} (h : OldK w wx b O A n c B m d S) {T : ByteArray} {A' : Option Addr} {n' c' : Nat} {B' : Option Addr} {m' d' : Nat} {S' : List ByteArray}
    (hD : Dev wx A' n' c' B' m' d' (-1) S' []) (hf : Fine S' [] (-1) 0 ∧ secAt S' 0 = T) : OldK w (((wx.setCell ⟨b, 0, none⟩ (.slice A' n' c')).setCell ⟨b, 1, none⟩ (.slice B' m' d')).setCell ⟨b, 2, none⟩ (.int .i64 (-1))) b T A' n' c' B' m' d' S' :=
  ⟨h.bel.grown (grown_set3 _ _ _ _ _) h.bel.size (by simpa using h.new), h.st.set3 _ _ _ _ _ _ _, hD.only h.st.ns (grown_set3 _ _ _ _ _), hf.1, hf.2, h.new⟩

theorem OldK.read {w wx : World} {b : Nat} {O : ByteArray} {A : Option Addr} {n c : Nat} {B : Option Addr} {m d : Nat} {S : List ByteArray} (h : OldK w wx b O A n c B m d S) (wy : World) (hb : Below wx.heap.size wx wy) :
    Calls Try.prog 20 #[DV A n c B m d (-1), .int .i64 0] wy fun e w' => e = .returned (.tuple #[.string O, .int .i64 0]) ∧ Below wy.heap.size wy w' := by
  have h1 := read_any A n c B m d (-1) S [] 0 wy (h.dev.below hb)
  obtain ⟨e1, e2⟩ := h.fine.rd 0 (by omega)
  rw [show ((0 : Nat) : Int) = 0 from rfl] at e1 e2
  rw [e1, e2] at h1
  have e3 : lastW [] 0 (secAt S 0) = O := h.sec
  rwa [e3] at h1

theorem one_torn {S : List ByteArray} (h : Fine S [] (-1) 0) (T : ByteArray) (hT : T.size = 64) (c : Nat → Nat) (hc : ∀ k, c k ≤ 64) :
    Fine (goAll S [((0 : Int), T)] c) [] (-1) 0 ∧ secAt (goAll S [((0 : Int), T)] c) 0 = torn T (secAt S 0) (c 0) := by
  obtain ⟨⟨h1, h2, h3⟩, h4, h5, h6⟩ := chk_ok h.ok
  have hl := h.len
  obtain ⟨g1, g2⟩ := goAll_all (c := c) h4 (one_ok h T hT) hc
  refine ⟨⟨chk_of (by omega) (by omega) h3 g1 (by simp) (by simp), by omega, by simp⟩, ?_⟩
  have e : goAll S [((0 : Int), T)] c = goOne S ((0 : Int), T) (c 0) := by have := goAll_snoc S [] ((0 : Int), T) c; simpa [goAll_nil] using this
  rw [e, goOne_at S _ _ 0 (Int.le_refl 0) (by omega), if_pos (show ((0 : Int), T).1 = ((0 : Nat) : Int) from rfl)]
  rfl
theorem cut_one (z : Int) : cutAt [z] 0 = clamp z := by simp [cutAt]

/-- What sector 0 has ahead. -/
def oldB (old : Nat) (a : ByteArray) : ByteArray := if old = 0 then fillS 0 else sheetB old a
theorem oldB_ends (old : Nat) (a : ByteArray) (h : a.size ≤ 52) : Ends (oldB old a) (beB 6 old) := by
  unfold oldB
  by_cases h0 : old = 0
  · subst h0
    rw [if_pos rfl]
    exact ⟨by decide +kernel, by decide +kernel, by decide +kernel⟩
  · rw [if_neg h0]; exact Ends.sheet old a h
theorem sec_new : secAt (newS 16) 0 = fillS 0 := by decide +kernel

set_option maxRecDepth 100000 in
set_option maxHeartbeats 4000000 in
theorem walk_torn (old more : Nat) (a b : ByteArray) (cut : Nat) (w : World) (ho : old ≤ 4294967295) (hm : more ≤ 4294967295) (hc : cut ≤ 255) :
    Calls Try.prog 6 #[.agg #[.int .u32 old, .int .u32 more], .agg #[.string a, .string b], .int .u8 cut] w fun e w' => e = .returned (.bool true) ∧ Below w.heap.size w w' := by
  by_cases hla : (52 : Int) < a.size
  · clear ho hm hc
    go_enter Try.func6, Try.ntmps6
    go_wp2_with fail
    go_quiet (fail)
    go_wp2_with (go_at_call 7; refine (awake_any _).mono ?_; rintro e w' ⟨rfl, hb⟩)
    go_ret
    exact ⟨rfl, ((((Below.refl _ w).push _).push _).drewN _).call hb⟩
  by_cases hlb : (52 : Int) < b.size
  · have d1 : decide ((52 : Int) < a.size) = false := decide_eq_false hla
    clear ho hm hc
    go_enter Try.func6, Try.ntmps6
    go_wp2_with fail
    go_quiet (fail)
    go_wp2_with (go_at_call 7; refine (awake_any _).mono ?_; rintro e w' ⟨rfl, hb⟩)
    go_ret
    exact ⟨rfl, ((((Below.refl _ w).push _).push _).drewN _).call hb⟩
  have d1 : decide ((52 : Int) < a.size) = false := decide_eq_false hla
  have d2 : decide ((52 : Int) < b.size) = false := decide_eq_false hlb
  have HN := Lib.hid (fun w => new_yes 16 w (by omega) (by omega))
  clear hla hlb
  have HO := Lib.hid ho
  have HM := Lib.hid hm
  have HC := Lib.hid hc
  clear ho hm hc
  go_enter Try.func6, Try.ntmps6
  go_wp2_with fail
  go_quiet (fail)
  have hB0 := ((((Below.refl _ w).push (.cells #[.int .u32 old, .int .u32 more] 37)).push (.cells #[.string a, .string b] 38)).drewN nq)
  generalize (((w.alloc (.cells #[.int .u32 old, .int .u32 more] 37)).alloc (.cells #[.string a, .string b] 38)).drewN nq) = w0 at *
  go_wp2_with fail
  refine (HN.out _).mono ?_
  rintro r w1 ⟨A1, n1, k1, B1, m1, l1, rfl, hD1, hb1⟩
  have HK0 : Hid (OldK w (w1.alloc (.cells #[.slice A1 n1 k1, .slice B1 m1 l1, .int .i64 (-1)] 42)) w1.heap.size (fillS 0) A1 n1 k1 B1 m1 l1 (newS 16)) :=
    have hN1 := NewD.fresh hb1 hD1 42
    ⟨hB0.call hN1.bel, hN1.st, hN1.dev, fine_new, sec_new, Nat.le_trans hB0.size hN1.new⟩
  clear hb1 hD1 hB0
  go_upto_if 51 with fail
  generalize w1.alloc (.cells #[.slice A1 n1 k1, .slice B1 m1 l1, .int .i64 (-1)] 42) = w2 at *
  generalize w1.heap.size = bs at *
  go_cut [] (fun wx => ∃ A n c B m d S, Hid (OldK w wx bs (oldB old a) A n c B m d S))
  case first =>
    by_cases h0 : old = 0
    · subst h0
      go_wp2_with fail
      go_meet
      exact ⟨_, _, _, _, _, _, _, HK0.out⟩
    · have h1 : (0 : Int) < (old : Int) := by omega
      have HS : Hid (∀ W, Calls Try.prog 8 #[.int .i64 old, .string a] W fun e w' => e = .returned (.tuple #[.string (sheetB old a), .int .i64 0]) ∧ Below W.heap.size W w') :=
        fun W => seal_ok old a W (by omega) (by have := HO.out; omega) (by simp at d1; omega)
      have hw : wrap64 (old : Int) = old := IntWalk.wrap64_in _ (by have := HO.out; omega)
      have HE := Lib.hid (show oldB old a = sheetB old a by unfold oldB; rw [if_neg h0])
      have HZ := Lib.hid (sheetB_size old a (by simp at d1; omega))
      clear h0
      generalize sheetB old a = O at *
      obtain ⟨x0, x1, x2, y0, y1, y2⟩ := HK0.out.st.box
      go_wp2_with fail
      with_reducible refine (HS.out _).mono ?_
      rintro r w3 ⟨rfl, hb⟩
      have HK1 := Lib.hid (HK0.out.call hb)
      clear hb HK0 x0 x1 x2 y0 y1 y2
      have HP := Lib.hid (HK1.out.put O HZ.out)
      obtain ⟨x0, x1, x2, y0, y1, y2⟩ := HK1.out.st.box
      go_wp2_with fail
      refine HP.out.mono ?_
      rintro r w4 ⟨A4, n4, k4, B4, m4, l4, rfl, hD4, hb4⟩
      have HK4 := Lib.hid (HK1.out.call (hb4.push (.cells #[.slice A4 n4 k4, .slice B4 m4 l4, .int .i64 (-1)] 42)))
      have HF : Hid (∀ W, Below w4.heap.size w4 W → Calls Try.prog 19 #[DV A4 n4 k4 B4 m4 l4 (-1)] W (RetDE W (goAll (newS 16) [((0 : Int), O)] fun _ => 64) [] (-1) 0)) := fun W hb =>
        flush0 A4 n4 k4 B4 m4 l4 (-1) (newS 16) [((0 : Int), O)] W (hD4.below hb) (one_chk HK1.out.fine O HZ.out) (by decide)
      have HFN := Lib.hid (one_flushed HK1.out.fine O HZ.out)
      generalize (goAll (newS 16) [((0 : Int), O)] fun _ => 64) = S5 at *
      clear x0 x1 x2 y0 y1 y2 HK1 hD4 hb4 HP HS
      obtain ⟨x0, x1, x2, y0, y1, y2⟩ := HK4.out.st.box
      go_wp2_with fail
      refine (HF.out _ (new1 _ _)).mono ?_
      rintro r w5 ⟨A5, n5, k5, B5, m5, l5, rfl, hD5, hb5⟩
      have HK5 := Lib.hid (HK4.out.call (hb5.push (.cells #[.slice A5 n5 k5, .slice B5 m5 l5, .int .i64 (-1)] 42)))
      have HD5 := Lib.hid (hD5.new (.cells #[.slice A5 n5 k5, .slice B5 m5 l5, .int .i64 (-1)] 42))
      clear x0 x1 x2 y0 y1 y2 HK4 hb5 hD5 HF
      obtain ⟨x0, x1, x2, y0, y1, y2⟩ := HK5.out.st.box
      go_wp2_with fail
      go_meet
      have := HK5.out.set HD5.out HFN.out
      rw [← HE.out] at this
      exact ⟨_, _, _, _, _, _, _, this⟩
  case rest =>
    obtain ⟨A, n, c, B, m, d, S, HK⟩ := hcut
    have HS : Hid (∀ W, Calls Try.prog 8 #[.int .i64 (wrap64 (wrap64 (1 + wrap64 (old : Int)) + wrap64 (more : Int))), .string b] W fun e w' => e = .returned (.tuple #[.string (sheetB (1 + old + more) b), .int .i64 0]) ∧ Below W.heap.size W w') := fun W => by
      have h1 := HO.out
      have h2 := HM.out
      have e : wrap64 (wrap64 (1 + wrap64 (old : Int)) + wrap64 (more : Int)) = ((1 + old + more : Nat) : Int) := by
        rw [IntWalk.wrap64_in (old : Int) (by omega), IntWalk.wrap64_in (more : Int) (by omega), IntWalk.wrap64_in (1 + (old : Int)) (by omega), IntWalk.wrap64_in _ (by omega)]; omega
      rw [e]
      exact seal_ok (1 + old + more) b W (by omega) (by omega) (by simp at d2; omega)
    have HT := Lib.hid (Ends.sheet (1 + old + more) b (by simp at d2; omega))
    have HOE := Lib.hid (oldB_ends old a (by simp at d1; omega))
    have HLT : Hid (natBE (beB 6 old) < natBE (beB 6 (1 + old + more))) := by
      have h1 := HO.out
      have h2 := HM.out
      show natBE _ < natBE _
      rw [beB_num (by omega), beB_num (by omega)]; omega
    generalize sheetB (1 + old + more) b = T at *
    generalize oldB old a = O at *
    obtain ⟨x0, x1, x2, y0, y1, y2⟩ := HK.out.st.box
    clear HK0 HN
    go_wp2_with fail
    with_reducible refine (HS.out _).mono ?_
    rintro r w3 ⟨rfl, hb⟩
    have HK3 := Lib.hid (HK.out.call hb)
    clear x0 x1 x2 y0 y1 y2 hb HS HK
    obtain ⟨x0, x1, x2, y0, y1, y2⟩ := HK3.out.st.box
    go_wp2_with fail
    refine (HK3.out.put T HT.out.size).mono ?_
    rintro r w4 ⟨A4, n4, k4, B4, m4, l4, rfl, hD4, hb4⟩
    have HK4 := Lib.hid (HK3.out.call (hb4.push (.cells #[.slice A4 n4 k4, .slice B4 m4 l4, .int .i64 (-1)] 42)))
    have HX4 := Lib.hid (St.new w4 A4 n4 k4 B4 m4 l4 (-1) 42)
    have HD4 := Lib.hid (hD4.new (.cells #[.slice A4 n4 k4, .slice B4 m4 l4, .int .i64 (-1)] 42))
    clear x0 x1 x2 y0 y1 y2 hb4 hD4 HK3
    obtain ⟨x0, x1, x2, y0, y1, y2⟩ := HK4.out.st.box
    go_wp2_with fail
    refine (HK4.out.read _ (Below.refl _ _)).mono ?_
    rintro r w5 ⟨rfl, hb⟩
    have HB5 := Lib.hid (HK4.out.bel.call hb)
    have HX5 := Lib.hid ((HX4.out).call hb)
    have HD5 := Lib.hid (HD4.out.below hb)
    have HFN := Lib.hid HK4.out.fine
    have HSEC := Lib.hid HK4.out.sec
    clear x0 x1 x2 y0 y1 y2 hb HK4 HX4 HD4
    obtain ⟨x0, x1, x2, y0, y1, y2⟩ := HX5.out.box
    have hcc := HC.out
    go_wp2_with fail
    have hRV : RV (w5.alloc (.cells #[.int .i64 cut] 3)) (some ⟨w5.heap.size, 0, none⟩) 1 1 (IV [(cut : Int)]) :=
      rv_of (by omega) (by simp [IV]) (fun i hi => by
        have hi' : i < 1 := by simpa [IV] using hi
        obtain rfl : i = 0 := by omega
        simp [Addr.add, IV, go_sem])
    refine (crash_yes A4 n4 k4 B4 m4 l4 (-1) S [((0 : Int), T)] _ 1 1 [(cut : Int)] _ (HD5.out.new _) hRV (one_chk HFN.out T HT.out.size)).mono ?_
    rintro r w6 ⟨A6, n6, k6, B6, m6, l6, rfl, hD6, hb6⟩
    obtain ⟨N, HNF, HR6⟩ : ∃ N, Hid (N = torn T O (clamp cut)) ∧ Hid (∀ W, Below w6.heap.size w6 W → Calls Try.prog 20 #[DV A6 n6 k6 B6 m6 l6 (-1), .int .i64 0] W fun e w' => e = .returned (.tuple #[.string N, .int .i64 0]) ∧ Below W.heap.size W w') := by
      refine ⟨_, Lib.hid rfl, fun W hb => ?_⟩
      have h1 := read_any A6 n6 k6 B6 m6 l6 (-1) _ [] 0 W (hD6.below hb)
      obtain ⟨f1, f2⟩ := one_torn HFN.out T HT.out.size (cutAt [(cut : Int)]) (cutAt_le _)
      obtain ⟨e1, e2⟩ := f1.rd 0 (by omega)
      rw [show ((0 : Nat) : Int) = 0 from rfl] at e1 e2
      rw [e1, e2] at h1
      have e3 : lastW [] 0 (secAt (goAll S [((0 : Int), T)] (cutAt [(cut : Int)])) 0) = torn T O (clamp cut) := by
        rw [← HSEC.out, ← cut_one]
        exact f2
      rwa [e3] at h1
    have HB6 := Lib.hid ((HB5.out.push _).call hb6)
    clear x0 x1 x2 y0 y1 y2 hb6 HX5 HD5 hRV hD6 HB5
    go_wp2_with fail
    refine (HR6.out _ (Below.refl _ _)).mono ?_
    rintro r w7 ⟨rfl, hb⟩
    have HB7 := Lib.hid (HB6.out.call hb)
    have hNF := HNF.out
    clear hb HB6 HR6 HNF
    have ht := torn_facts HOE.out HT.out HLT.out (clamp cut) (clamp_le _)
    rw [← hNF] at ht
    obtain ⟨s64, hwh, htop, hfull⟩ := ht
    have o64 := HOE.out.size
    have HW := Lib.hid (fun W => whole_any N W)
    have HT1 := Lib.hid (fun W => top_any N W)
    have HT2 := Lib.hid (fun W => top_any O W)
    have hfull' : ¬ cut < 64 → N = T := fun h => hfull (by unfold clamp; omega)
    clear hNF hfull HOE HT HLT HFN HSEC HO HM HC
    generalize topR N = tn at *
    generalize topR O = ton at *
    have hor : ((openR N).2.2 == 0) = false ∨ ((openR N).2.2 == 0) = true ∧ (N.toList == O.toList) = true ∨ ((openR N).2.2 == 0) = true ∧ (N.toList == O.toList) = false ∧ (N.toList == T.toList) = true := by
      by_cases h0 : (openR N).2.2 = 0
      · right
        by_cases h1 : N = O
        · left; exact ⟨beq_iff_eq.2 h0, by rw [h1, str_eq]⟩
        · right
          refine ⟨beq_iff_eq.2 h0, str_ne h1, ?_⟩
          rcases hwh h0 with h | h
          · exact absurd h h1
          · rw [h, str_eq]
      · left; exact beq_eq_false_iff_ne.2 h0
    have hcut : (cut : Int) < 64 ∨ decide ((cut : Int) < 64) = false ∧ (N.toList == T.toList) = true := by
      by_cases h : cut < 64
      · left; omega
      · right; exact ⟨decide_eq_false (by omega), by rw [hfull' h, str_eq]⟩
    clear hwh hfull'
    generalize ((openR N).2.2 == 0) = wb at *
    rcases hor with rfl | ⟨rfl, hq1⟩ | ⟨rfl, hq1, hq2⟩
    all_goals
      rcases hcut with hq3 | ⟨hq3, hq4⟩
    all_goals
      go_wp2_with fail
      refine (HW.out _).mono ?_
      rintro r w8 ⟨rfl, hb⟩
      have HB8 := Lib.hid (HB7.out.call hb)
      clear hb
      go_wp2_with fail
      refine (HT1.out _).mono ?_
      rintro r w9 ⟨rfl, hb⟩
      have HB9 := Lib.hid (HB8.out.call hb)
      clear hb
      go_wp2_with fail
      refine (HT2.out _).mono ?_
      rintro r w10 ⟨rfl, hb⟩
      have HB10 := Lib.hid (HB9.out.call hb)
      clear hb
      go_wp2_with fail
      refine (awake_any _).mono ?_
      rintro r w11 ⟨rfl, hb⟩
      have HB11 := Lib.hid (HB10.out.call hb)
      clear hb
      go_wp2_with fail
      go_ret
      exact ⟨rfl, HB11.out⟩

end Go.Proofs.Ytaafkkmcpedeaaa
