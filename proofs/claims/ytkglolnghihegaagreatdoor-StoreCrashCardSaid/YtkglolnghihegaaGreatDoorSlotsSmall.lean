/- Small contracts of package slots and of the document's answer: Size, Begin, Room, what is a slot, a stretch, a head. -/
import Derived.Test.YtkglolnghihegaaGreatDoorSheafSmall
import Derived.Test.YtkglolnghihegaaGreatDoorDskA
namespace Go.Proofs.YtkglolnghihegaaGreatDoor.Slt
open Go.RowKit Go.Proofs.YtkglolnghihegaaGreatDoor.Shf Go.Proofs.YtkglolnghihegaaGreatDoor.Dsk

/-- How many sectors a slot has. -/
def sizR (n : Int) : Int := if 16 ≤ n ∧ n ≤ 512 then n / 4 else 0
theorem sizR_nonneg (n : Int) : 0 ≤ sizR n := by unfold sizR; split <;> omega
theorem sizR_le (n : Int) : sizR n ≤ 128 := by unfold sizR; split <;> omega
theorem sizR_of {n : Int} (h1 : 16 ≤ n) (h2 : n ≤ 512) : sizR n = n / 4 := if_pos ⟨h1, h2⟩

theorem size_any (n : Int) (w : World) :
    Calls Tryz.prog 62 #[.int .i64 n] w fun r w' => r = .returned (.int .i64 (sizR n)) ∧ w = w' := by
  unfold sizR
  by_cases h : n < 16
  · rw [if_neg (by omega)]
    go_enter Tryz.func62, Tryz.ntmps62
    go_wp2
    go_ret
    exact ⟨rfl, rfl⟩
  · by_cases h2 : 512 < n
    · rw [if_neg (by omega)]
      go_enter Tryz.func62, Tryz.ntmps62
      go_wp2
      go_ret
      exact ⟨rfl, rfl⟩
    · rw [if_pos (by omega)]
      go_enter Tryz.func62, Tryz.ntmps62
      go_wp2
      go_ret
      exact ⟨rfl, rfl⟩

theorem rsize_any (n : Int) (w : World) :
    Calls Tryz.prog 73 #[.int .i64 n] w fun r w' => r = .returned (.int .i64 (sizR n)) ∧ w = w' := by
  unfold sizR
  by_cases h : n < 16
  · rw [if_neg (by omega)]
    go_enter Tryz.func73, Tryz.ntmps73
    go_wp2
    go_ret
    exact ⟨rfl, rfl⟩
  · by_cases h2 : 512 < n
    · rw [if_neg (by omega)]
      go_enter Tryz.func73, Tryz.ntmps73
      go_wp2
      go_ret
      exact ⟨rfl, rfl⟩
    · rw [if_pos (by omega)]
      go_enter Tryz.func73, Tryz.ntmps73
      go_wp2
      go_ret
      exact ⟨rfl, rfl⟩

theorem begin_any (n : Int) (w : World) :
    Calls Tryz.prog 30 #[.int .i64 n] w fun r w' => r = .returned (.int .i64 (2 * sizR n)) ∧ w = w' := by
  have H := Lib.hid (fun W => size_any n W)
  have h1 := sizR_nonneg n
  have h2 := sizR_le n
  generalize sizR n = z at *
  go_enter Tryz.func30, Tryz.ntmps30
  go_wp2_with (go_at_call 62; with_reducible refine (H.out _).mono ?_; rintro e w' ⟨rfl, rfl⟩)
  go_ret
  exact ⟨rfl, rfl⟩

theorem rbegin_any (n : Int) (w : World) :
    Calls Tryz.prog 40 #[.int .i64 n] w fun r w' => r = .returned (.int .i64 (2 * sizR n)) ∧ w = w' := by
  have H := Lib.hid (fun W => rsize_any n W)
  have h1 := sizR_nonneg n
  have h2 := sizR_le n
  generalize sizR n = z at *
  go_enter Tryz.func40, Tryz.ntmps40
  go_wp2_with (go_at_call 73; with_reducible refine (H.out _).mono ?_; rintro e w' ⟨rfl, rfl⟩)
  go_ret
  exact ⟨rfl, rfl⟩

theorem room_any (n : Int) (w : World) :
    Calls Tryz.prog 56 #[.int .i64 n] w fun r w' => r = .returned (.int .i64 (longR (sizR n))) ∧ w = w' := by
  have H := Lib.hid (fun W => size_any n W)
  generalize sizR n = z at *
  have H2 := Lib.hid (fun W => longest_any z W)
  generalize longR z = y at *
  go_enter Tryz.func56, Tryz.ntmps56
  go_wp2_with (first | (go_at_call 62; with_reducible refine (H.out _).mono ?_; rintro e w' ⟨rfl, rfl⟩) | (go_at_call 94; with_reducible refine (H2.out _).mono ?_; rintro e w' ⟨rfl, rfl⟩))
  go_ret
  exact ⟨rfl, rfl⟩

/-- Is it a slot? -/
def isS (z : Int) : Bool := decide (0 ≤ z) && decide (z < 2)
theorem isS_yes {z : Int} (h : isS z = true) : z = 0 ∨ z = 1 := by unfold isS at h; simp at h; omega
theorem isS_no {z : Int} (h : isS z = false) : ¬ (z = 0 ∨ z = 1) := by unfold isS at h; simp at h; omega

theorem isSlot_any (z : Int) (w : World) :
    Calls Tryz.prog 76 #[.int .i64 z] w fun r w' => r = .returned (.bool (isS z)) ∧ w = w' := by
  unfold isS
  rcases hb1 : decide (0 ≤ z) with _ | _ <;> rcases hb2 : decide (z < 2) with _ | _ <;>
  · go_enter Tryz.func76, Tryz.ntmps76
    go_wp2
    go_ret
    exact ⟨rfl, rfl⟩

theorem headOf_any (g : Int) (w : World) :
    Calls Tryz.prog 79 #[.int .i64 g] w fun r w' => r = .returned (HV 1 g 0) ∧ Below w.heap.size w w' := by
  go_enter Tryz.func79, Tryz.ntmps79
  go_wp2
  refine bodyPost_ret (v := HV 1 g 0) (by simp [results, Tryz.results79, go_sem]) rfl ⟨rfl, ?_⟩
  exact new1 w _

/-- May a stretch of a disk be? -/
def okS (S : List ByteArray) (W : List Wr) (f p q : Int) : Bool := decide (chk S W f = 0) && (decide (0 ≤ p) && (decide (p ≤ q) && decide (q ≤ S.length)))
theorem okS_yes {S : List ByteArray} {W : List Wr} {f p q : Int} (h : okS S W f p q = true) : chk S W f = 0 ∧ 0 ≤ p ∧ p ≤ q ∧ q ≤ S.length := by unfold okS at h; simpa using h
theorem okS_of {S : List ByteArray} {W : List Wr} {f p q : Int} (h1 : chk S W f = 0) (h2 : 0 ≤ p) (h3 : p ≤ q) (h4 : q ≤ S.length) : okS S W f p q = true := by unfold okS; simp [*]

theorem isStretch_any (A : Option Addr) (n c : Nat) (A' : Option Addr) (m c' : Nat) (f : Int) (S : List ByteArray) (W : List Wr) (p q : Int) (w : World) (hD : Dev w A n c A' m c' f S W) :
    Calls Tryz.prog 104 #[DV A n c A' m c' f, .int .i64 p, .int .i64 q] w fun r w' => r = .returned (.bool (okS S W f p q)) ∧ Below w.heap.size w w' := by
  have HC := Lib.hid (check_any A n c A' m c' f S W _ (hD.new (D33 A n c A' m c' f)))
  have hn := hD.sec.sec
  unfold okS
  rw [hn]
  rcases hb0 : decide (chk S W f = 0) with _ | _
  · have hne : (chk S W f == 0) = false := by simpa using hb0
    generalize chk S W f = e0 at *
    clear hD hb0
    go_enter Tryz.func104, Tryz.ntmps104
    go_wp2_with (go_at_call 31; ((with_reducible refine HC.out.mono ?_); rintro e w1 ⟨rfl, hb1⟩; have HB := Lib.hid hb1; obtain ⟨c0, c1, c2, -, -, -⟩ := (Box.new w (.slice A n c) (.slice A' m c') (.int .i64 f) 29).call hb1; clear hb1))
    go_ret
    exact ⟨rfl, (new1 _ _).call HB.out⟩
  · have hne : (chk S W f == 0) = true := by simpa using hb0
    generalize chk S W f = e0 at *
    clear hD hb0
    rcases hb1 : decide (0 ≤ p) with _ | _ <;> rcases hb2 : decide (p ≤ q) with _ | _ <;> rcases hb3 : decide (q ≤ n) with _ | _ <;>
    · go_enter Tryz.func104, Tryz.ntmps104
      go_wp2_with (go_at_call 31; ((with_reducible refine HC.out.mono ?_); rintro e w1 ⟨rfl, hb1⟩; have HB := Lib.hid hb1; obtain ⟨c0, c1, c2, -, -, -⟩ := (Box.new w (.slice A n c) (.slice A' m c') (.int .i64 f) 29).call hb1; clear hb1))
      go_ret
      exact ⟨rfl, (new1 _ _).call HB.out⟩

theorem stretchOf_any (A : Option Addr) (n c : Nat) (A' : Option Addr) (m c' : Nat) (f : Int) (S : List ByteArray) (W : List Wr) (z : Int) (w : World) (hD : Dev w A n c A' m c' f S W) (hz : z = 0 ∨ z = 1) :
    Calls Tryz.prog 77 #[DV A n c A' m c' f, .int .i64 z] w fun r w' => r = .returned (.tuple #[.int .i64 (z * sizR S.length), .int .i64 ((z + 1) * sizR S.length)]) ∧ w' = w.alloc (D33 A n c A' m c' f) := by
  have hn := hD.sec.sec
  rw [hn]
  have H := Lib.hid (fun W => size_any n W)
  have h3 := sizR_nonneg n
  have h2 := sizR_le n
  generalize sizR n = y at *
  clear hD hn
  rcases hz with rfl | rfl
  all_goals
    go_enter Tryz.func77, Tryz.ntmps77
    go_wp2_with (go_at_call 62; with_reducible refine (H.out _).mono ?_; rintro e w' ⟨rfl, rfl⟩)
    go_ret2
    refine ⟨?_, rfl⟩
    first | rfl | simp

end Go.Proofs.YtkglolnghihegaaGreatDoor.Slt
