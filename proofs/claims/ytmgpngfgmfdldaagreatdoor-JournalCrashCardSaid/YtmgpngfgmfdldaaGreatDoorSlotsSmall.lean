/- Small contracts of package slots and of the document's answer: Size, Begin, Room, what is a slot, a stretch, a head. -/
import Derived.Test.YtmgpngfgmfdldaaGreatDoorSheafSmall
import Derived.Test.YtmgpngfgmfdldaaGreatDoorDskA
namespace Go.Proofs.YtmgpngfgmfdldaaGreatDoor.Slt
open Go.RowKit Go.Proofs.YtmgpngfgmfdldaaGreatDoor.Shf Go.Proofs.YtmgpngfgmfdldaaGreatDoor.Dsk

/-- How many sectors a slot has. -/
def sizR (n : Int) : Int := if 16 ≤ n ∧ n ≤ 512 then n / 4 else 0
theorem sizR_nonneg (n : Int) : 0 ≤ sizR n := by unfold sizR; split <;> omega
theorem sizR_le (n : Int) : sizR n ≤ 128 := by unfold sizR; split <;> omega
theorem sizR_of {n : Int} (h1 : 16 ≤ n) (h2 : n ≤ 512) : sizR n = n / 4 := if_pos ⟨h1, h2⟩

theorem size_any (n : Int) (w : World) :
    Calls Tryz.prog 47 #[.int .i64 n] w fun r w' => r = .returned (.int .i64 (sizR n)) ∧ w = w' := by
  unfold sizR
  by_cases h : n < 16
  · rw [if_neg (by omega)]
    go_enter Tryz.func47, Tryz.ntmps47
    go_wp2
    go_ret
    exact ⟨rfl, rfl⟩
  · by_cases h2 : 512 < n
    · rw [if_neg (by omega)]
      go_enter Tryz.func47, Tryz.ntmps47
      go_wp2
      go_ret
      exact ⟨rfl, rfl⟩
    · rw [if_pos (by omega)]
      go_enter Tryz.func47, Tryz.ntmps47
      go_wp2
      go_ret
      exact ⟨rfl, rfl⟩

theorem rsize_any (n : Int) (w : World) :
    Calls Tryz.prog 43 #[.int .i64 n] w fun r w' => r = .returned (.int .i64 (sizR n)) ∧ w = w' := by
  unfold sizR
  by_cases h : n < 16
  · rw [if_neg (by omega)]
    go_enter Tryz.func43, Tryz.ntmps43
    go_wp2
    go_ret
    exact ⟨rfl, rfl⟩
  · by_cases h2 : 512 < n
    · rw [if_neg (by omega)]
      go_enter Tryz.func43, Tryz.ntmps43
      go_wp2
      go_ret
      exact ⟨rfl, rfl⟩
    · rw [if_pos (by omega)]
      go_enter Tryz.func43, Tryz.ntmps43
      go_wp2
      go_ret
      exact ⟨rfl, rfl⟩

theorem begin_any (n : Int) (w : World) :
    Calls Tryz.prog 23 #[.int .i64 n] w fun r w' => r = .returned (.int .i64 (2 * sizR n)) ∧ w = w' := by
  have H := Lib.hid (fun W => size_any n W)
  have h1 := sizR_nonneg n
  have h2 := sizR_le n
  generalize sizR n = z at *
  go_enter Tryz.func23, Tryz.ntmps23
  go_wp2_with (go_at_call 47; with_reducible refine (H.out _).mono ?_; rintro e w' ⟨rfl, rfl⟩)
  go_ret
  exact ⟨rfl, rfl⟩

theorem rbegin_any (n : Int) (w : World) :
    Calls Tryz.prog 32 #[.int .i64 n] w fun r w' => r = .returned (.int .i64 (2 * sizR n)) ∧ w = w' := by
  have H := Lib.hid (fun W => rsize_any n W)
  have h1 := sizR_nonneg n
  have h2 := sizR_le n
  generalize sizR n = z at *
  go_enter Tryz.func32, Tryz.ntmps32
  go_wp2_with (go_at_call 43; with_reducible refine (H.out _).mono ?_; rintro e w' ⟨rfl, rfl⟩)
  go_ret
  exact ⟨rfl, rfl⟩

/-- Is it a slot? -/
def isS (z : Int) : Bool := decide (0 ≤ z) && decide (z < 2)
theorem isS_yes {z : Int} (h : isS z = true) : z = 0 ∨ z = 1 := by unfold isS at h; simp at h; omega
theorem isS_no {z : Int} (h : isS z = false) : ¬ (z = 0 ∨ z = 1) := by unfold isS at h; simp at h; omega

/-- May a stretch of a disk be? -/
def okS (S : List ByteArray) (W : List Wr) (f p q : Int) : Bool := decide (chk S W f = 0) && (decide (0 ≤ p) && (decide (p ≤ q) && decide (q ≤ S.length)))
theorem okS_yes {S : List ByteArray} {W : List Wr} {f p q : Int} (h : okS S W f p q = true) : chk S W f = 0 ∧ 0 ≤ p ∧ p ≤ q ∧ q ≤ S.length := by unfold okS at h; simpa using h
theorem okS_of {S : List ByteArray} {W : List Wr} {f p q : Int} (h1 : chk S W f = 0) (h2 : 0 ≤ p) (h3 : p ≤ q) (h4 : q ≤ S.length) : okS S W f p q = true := by unfold okS; simp [*]

theorem isStretch_any (A : Option Addr) (n c : Nat) (A' : Option Addr) (m c' : Nat) (f : Int) (S : List ByteArray) (W : List Wr) (p q : Int) (w : World) (hD : Dev w A n c A' m c' f S W) :
    Calls Tryz.prog 64 #[DV A n c A' m c' f, .int .i64 p, .int .i64 q] w fun r w' => r = .returned (.bool (okS S W f p q)) ∧ Below w.heap.size w w' := by
  have HC := Lib.hid (check_any A n c A' m c' f S W _ (hD.new (D33 A n c A' m c' f)))
  have hn := hD.sec.sec
  unfold okS
  rw [hn]
  rcases hb0 : decide (chk S W f = 0) with _ | _
  · have hne : (chk S W f == 0) = false := by simpa using hb0
    generalize chk S W f = e0 at *
    clear hD hb0
    go_enter Tryz.func64, Tryz.ntmps64
    go_wp2_with (go_at_call 34; ((with_reducible refine HC.out.mono ?_); rintro e w1 ⟨rfl, hb1⟩; have HB := Lib.hid hb1; obtain ⟨c0, c1, c2, -, -, -⟩ := (Box.new w (.slice A n c) (.slice A' m c') (.int .i64 f) 31).call hb1; clear hb1))
    go_ret
    exact ⟨rfl, (new1 _ _).call HB.out⟩
  · have hne : (chk S W f == 0) = true := by simpa using hb0
    generalize chk S W f = e0 at *
    clear hD hb0
    rcases hb1 : decide (0 ≤ p) with _ | _ <;> rcases hb2 : decide (p ≤ q) with _ | _ <;> rcases hb3 : decide (q ≤ n) with _ | _ <;>
    · go_enter Tryz.func64, Tryz.ntmps64
      go_wp2_with (go_at_call 34; ((with_reducible refine HC.out.mono ?_); rintro e w1 ⟨rfl, hb1⟩; have HB := Lib.hid hb1; obtain ⟨c0, c1, c2, -, -, -⟩ := (Box.new w (.slice A n c) (.slice A' m c') (.int .i64 f) 31).call hb1; clear hb1))
      go_ret
      exact ⟨rfl, (new1 _ _).call HB.out⟩

end Go.Proofs.YtmgpngfgmfdldaaGreatDoor.Slt
