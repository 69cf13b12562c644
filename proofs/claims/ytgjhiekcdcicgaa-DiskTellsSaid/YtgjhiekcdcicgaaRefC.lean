/- The contract of the document's Same. -/
import Derived.Test.YtgjhiekcdcicgaaRefB
namespace Go.Proofs.Ytgjhiekcdcicgaa
open Go.RowKit

theorem same_no (S : List ByteArray) (W : List Wr) (f : Int) (T : List ByteArray) (V : List Wr) (g : Int) (h : ¬ (S.length = T.length ∧ W.length = V.length ∧ f = g)) : sameD S W f T V g = false := by
  unfold sameD
  by_cases h1 : f = g
  · by_cases h2 : S = T
    · by_cases h3 : W = V
      · exact absurd ⟨by rw [h2], by rw [h3], h1⟩ h
      · simp [h3]
    · simp [h2]
  · simp [h1]

theorem rsame_no (A : Option Addr) (n c : Nat) (A' : Option Addr) (m c' : Nat) (f : Int) (B : Option Addr) (p d : Nat) (B' : Option Addr) (q d' : Nat) (g : Int) (w : World) (h : ¬ (n = p ∧ m = q ∧ f = g)) :
    Calls Try.prog 15 #[DV A n c A' m c' f, DV B p d B' q d' g] w fun e w' => e = .returned (.bool false) ∧ Below w.heap.size w w' := by
  by_cases h1 : n = p
  · subst h1
    have e1 : ((n : Int) != (n : Int)) = false := by simp
    by_cases h2 : m = q
    · subst h2
      have e2 : ((m : Int) != (m : Int)) = false := by simp
      have h3 : (f != g) = true := by
        have : ¬ f = g := fun e => h ⟨rfl, rfl, e⟩
        simpa using this
      clear h
      go_enter Try.func15, Try.ntmps15
      go_wp2
      go_ret
      exact ⟨rfl, (new1 _ _).push _⟩
    · have e2 : ((m : Int) != (q : Int)) = true := by simp; omega
      clear h h2
      go_enter Try.func15, Try.ntmps15
      go_wp2
      go_ret
      exact ⟨rfl, (new1 _ _).push _⟩
  · have e1 : ((n : Int) != (p : Int)) = true := by simp; omega
    clear h h1
    go_enter Try.func15, Try.ntmps15
    go_wp2
    go_ret
    exact ⟨rfl, (new1 _ _).push _⟩

set_option maxRecDepth 100000 in
set_option maxHeartbeats 2000000 in
theorem rsame_in (A : Option Addr) (n c : Nat) (A' : Option Addr) (m c' : Nat) (f : Int) (S : List ByteArray) (W : List Wr) (B : Option Addr) (d : Nat) (B' : Option Addr) (d' : Nat) (T : List ByteArray) (V : List Wr) (w : World)
    (h1 : Dev w A n c A' m c' f S W) (h2 : Dev w B n d B' m d' f T V) :
    Calls Try.prog 15 #[DV A n c A' m c' f, DV B n d B' m d' f] w fun e w' => e = .returned (.bool (sameD S W f T V f)) ∧ Below w.heap.size w w' := by
  have hn : (n : Int) ≤ 2000 := by have := h1.sec.sec; have := h1.ns; omega
  have hm : (m : Int) ≤ 2000 := by have := h1.wr.wr; have := h1.nw; omega
  have HS := Lib.hid h1.sec.sec
  have HT := Lib.hid h2.sec.sec
  have HW := Lib.hid h1.wr.wr
  have HV := Lib.hid h2.wr.wr
  have HB0 := Lib.hid ((new1 w (D25 A n c A' m c' f)).push (D25 B n d B' m d' f))
  have HD1 := Lib.hid (h1.below HB0.out)
  have HD2 := Lib.hid (h2.below HB0.out)
  have HX := Lib.hid ((Box.new w (.slice A n c) (.slice A' m c') (.int .i64 f) 25).alloc (D25 B n d B' m d' f))
  have HY := Lib.hid (Box.new (w.alloc (D25 A n c A' m c' f)) (.slice B n d) (.slice B' m d') (.int .i64 f) 25)
  rw [World.size_alloc] at HY
  have e1 : ((n : Int) != (n : Int)) = false := by simp
  have e2 : ((m : Int) != (m : Int)) = false := by simp
  have e3 : (f != f) = false := by simp
  clear h1 h2
  go_enter Try.func15, Try.ntmps15
  go_wp2
  clear e1 e2 e3
  generalize (w.alloc (D25 A n c A' m c' f)).alloc (D25 B n d B' m d' f) = w0 at *
  go_loopw [5] (fun i wr => ∃ k : Nat, k ≤ n ∧ i = .int .i64 k ∧ Hid (S.take k = T.take k) ∧ Hid (Below w0.heap.size w0 wr)) (fun i _ => n - (intOf i).toNat)
  case atStart => exact ⟨0, by omega, rfl, rfl, Below.refl _ _⟩
  case round =>
    obtain ⟨k, hk, rfl, HA, HB⟩ := hrel
    obtain ⟨c0, c1, c2, f0, f1, f2⟩ := HX.out.call HB.out
    obtain ⟨g0, g1, g2, t0, t1, t2⟩ := HY.out.call HB.out
    by_cases hlt : k < n
    · have l1 : k < S.length := by have := HS.out; omega
      have l2 : k < T.length := by have := HT.out; omega
      obtain ⟨b, off, rfl, -, q1⟩ := (HD1.out.sec.below HB.out).secAt hlt l1
      obtain ⟨b', off', rfl, -, q2⟩ := (HD2.out.sec.below HB.out).secAt hlt l2
      have HN := Lib.hid (fun e => take_step HA.out l1 l2 e)
      have HXX := Lib.hid (fun e => ne_at l1 l2 e)
      generalize S[k] = s at *
      generalize T[k] = t at *
      clear l1 l2
      have i1 : (k : Int) < (n : Int) := by omega
      by_cases hst : s = t
      · subst hst
        have HN2 := Lib.hid (HN.out rfl)
        have hq := str_eq s
        clear HN HXX
        go_wp2_with fail
        go_quiet (fail)
        go_wp2
        go_roundw
        case rel => exact ⟨k + 1, by omega, by go_num, HN2.out, below_n HB.out _⟩
        case measure => simp [intOf]; omega
      · have hq := str_ne hst
        have HX2 := Lib.hid (show sameD S W f T V f = false by unfold sameD; simp [HXX.out hst])
        clear HN HXX hst
        go_wp2_with fail
        go_quiet (fail)
        go_wp2
        go_ret
        exact ⟨ret_bool HX2.out.symm, below_n (HB0.out.call HB.out) _⟩
    · have HE := Lib.hid (take_all HA.out (by have := HS.out; omega) (by have := HT.out; omega))
      clear HA
      go_wp2
      obtain ⟨w5, rfl⟩ : ∃ x : World, x = wr := ⟨_, rfl⟩
      clear c0 c1 c2 f0 f1 f2 g0 g1 g2 t0 t1 t2
      go_loopw [6] (fun i wr => ∃ k : Nat, k ≤ m ∧ i = .int .i64 k ∧ Hid (W.take k = V.take k) ∧ Hid (Below w0.heap.size w0 wr)) (fun i _ => m - (intOf i).toNat)
      case atStart => exact ⟨0, by omega, rfl, rfl, HB.out⟩
      case round =>
        obtain ⟨j, hj, rfl, HA, HB⟩ := hrel
        obtain ⟨c0, c1, c2, f0, f1, f2⟩ := HX.out.call HB.out
        obtain ⟨g0, g1, g2, t0, t1, t2⟩ := HY.out.call HB.out
        by_cases hlt2 : j < m
        · have l1 : j < W.length := by have := HW.out; omega
          have l2 : j < V.length := by have := HV.out; omega
          obtain ⟨b, off, rfl, -, q1, r1⟩ := (HD1.out.wr.below HB.out).wrAt hlt2 l1
          obtain ⟨b', off', rfl, -, q2, r2⟩ := (HD2.out.wr.below HB.out).wrAt hlt2 l2
          have HN := Lib.hid (fun e => take_step HA.out l1 l2 e)
          have HXX := Lib.hid (fun e => ne_at l1 l2 e)
          generalize W[j] = x at *
          generalize V[j] = y at *
          obtain ⟨p, s⟩ := x
          obtain ⟨q, t⟩ := y
          dsimp only at q1 r1 q2 r2
          clear l1 l2
          have i1 : (j : Int) < (m : Int) := by omega
          by_cases hst : s = t ∧ p = q
          · obtain ⟨rfl, rfl⟩ := hst
            have HN2 := Lib.hid (HN.out rfl)
            have hq := str_eq s
            clear HN HXX
            go_wp2_with fail
            go_quiet (fail)
            go_wp2
            go_roundw
            case rel => exact ⟨j + 1, by omega, by go_num, HN2.out, below_n HB.out _⟩
            case measure => simp [intOf]; omega
          · have HX2 := Lib.hid (show sameD S W f T V f = false by unfold sameD; simp [HXX.out (fun e => hst (by injection e with e1 e2; exact ⟨e2, e1⟩))])
            by_cases hpq : p = q
            · subst hpq
              have hq := str_ne (fun e => hst ⟨e, rfl⟩)
              clear HN HXX hst
              go_wp2_with fail
              go_quiet (fail)
              go_wp2
              go_ret
              exact ⟨ret_bool HX2.out.symm, below_n (HB0.out.call HB.out) _⟩
            · have hq : (p == q) = false := by simpa using hpq
              clear HN HXX hst hpq
              go_wp2_with fail
              go_quiet (fail)
              go_wp2
              go_ret
              exact ⟨ret_bool HX2.out.symm, below_n (HB0.out.call HB.out) _⟩
        · have HE2 := Lib.hid (take_all HA.out (by have := HW.out; omega) (by have := HV.out; omega))
          have HX2 := Lib.hid (show sameD S W f T V f = true by unfold sameD; simp [HE.out, HE2.out])
          clear HA
          go_wp2
          go_ret
          exact ⟨ret_bool HX2.out.symm, HB0.out.call HB.out⟩

theorem rsame_any (A : Option Addr) (n c : Nat) (A' : Option Addr) (m c' : Nat) (f : Int) (S : List ByteArray) (W : List Wr) (B : Option Addr) (p d : Nat) (B' : Option Addr) (q d' : Nat) (g : Int) (T : List ByteArray) (V : List Wr) (w : World)
    (h1 : Dev w A n c A' m c' f S W) (h2 : Dev w B p d B' q d' g T V) :
    Calls Try.prog 15 #[DV A n c A' m c' f, DV B p d B' q d' g] w fun e w' => e = .returned (.bool (sameD S W f T V g)) ∧ Below w.heap.size w w' := by
  have a1 := h1.sec.sec
  have a2 := h2.sec.sec
  have a3 := h1.wr.wr
  have a4 := h2.wr.wr
  by_cases h : n = p ∧ m = q ∧ f = g
  · obtain ⟨rfl, rfl, rfl⟩ := h
    exact rsame_in A n c A' m c' f S W B d B' d' T V w h1 h2
  · rw [same_no S W f T V g (by omega)]
    exact rsame_no A n c A' m c' f B p d B' q d' g w h

end Go.Proofs.Ytgjhiekcdcicgaa
