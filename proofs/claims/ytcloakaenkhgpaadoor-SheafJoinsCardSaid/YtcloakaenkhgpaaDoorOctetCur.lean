/- Contracts of the small functions of package octet (isWidth, inside, failed, New, Left, End): each returns what is said, for every cursor; no conditions but that a string has at most maxLen bytes. -/
import Derived.Test.YtcloakaenkhgpaaDoorMem
import Derived.WalkKit
import Derived.WalkLawsBesides
import Derived.Below
import Derived.Lib.Hide
import Derived.Outline
namespace Go.Proofs.YtcloakaenkhgpaaDoor.Oct
open Go.RowKit

/-- A cursor's value. -/
abbrev CV (s : ByteArray) (p e : Int) : Value := .agg #[.string s, .int .i64 p, .int .i64 e]

theorem isWidth_yes (n : Int) (w : World) (h1 : 1 ≤ n) (h2 : n ≤ 7) :
    Calls Tryd.prog 54 #[.int .i64 n] w fun e w' => e = .returned (.bool true) ∧ w = w' := by
  go_enter Tryd.func54, Tryd.ntmps54
  go_wp2
  go_ret
  exact ⟨rfl, rfl⟩

theorem isWidth_no (n : Int) (w : World) (h : n < 1 ∨ 7 < n) :
    Calls Tryd.prog 54 #[.int .i64 n] w fun e w' => e = .returned (.bool false) ∧ w = w' := by
  rcases h with h | h
  · have h' : ¬ 1 ≤ n := by omega
    go_enter Tryd.func54, Tryd.ntmps54
    go_wp2
    go_ret
    exact ⟨rfl, rfl⟩
  · have h' : ¬ n ≤ 7 := by omega
    go_enter Tryd.func54, Tryd.ntmps54
    go_wp2
    go_ret
    exact ⟨rfl, rfl⟩

theorem inside_yes (s : ByteArray) (p e : Int) (w : World) (_hs : s.size ≤ maxLen) (h1 : 0 ≤ p) (h2 : p ≤ s.size) :
    Calls Tryd.prog 53 #[CV s p e] w fun r w' => r = .returned (.bool true) ∧ Below w.heap.size w w' := by
  go_enter Tryd.func53, Tryd.ntmps53
  go_wp2
  go_ret
  exact ⟨rfl, (Below.refl _ _).alloc (Nat.le_refl _) _⟩

theorem inside_no (s : ByteArray) (p e : Int) (w : World) (hs : s.size ≤ maxLen) (h : p < 0 ∨ s.size < p) :
    Calls Tryd.prog 53 #[CV s p e] w fun r w' => r = .returned (.bool false) ∧ Below w.heap.size w w' := by
  unfold maxLen at hs
  rcases h with h | h
  · have h' : ¬ 0 ≤ p := by omega
    go_enter Tryd.func53, Tryd.ntmps53
    go_wp2
    go_ret
    exact ⟨rfl, (Below.refl _ _).alloc (Nat.le_refl _) _⟩
  · have h' : ¬ p ≤ s.size := by omega
    go_enter Tryd.func53, Tryd.ntmps53
    go_wp2
    go_ret
    exact ⟨rfl, (Below.refl _ _).alloc (Nat.le_refl _) _⟩

theorem failed_any (s : ByteArray) (p e f : Int) (w : World) :
    Calls Tryd.prog 55 #[CV s p e, .int .i64 f] w fun r w' => r = .returned (CV s p f) ∧ Below w.heap.size w w' := by
  go_enter Tryd.func55, Tryd.ntmps55
  go_wp2
  refine bodyPost_ret (v := CV s p f) (by simp [results, Tryd.results55, go_sem]) rfl ⟨rfl, ?_⟩
  exact ((Below.refl _ _).alloc (Nat.le_refl _) _).alloc (by simp) _

theorem new_any (s : ByteArray) (w : World) :
    Calls Tryd.prog 41 #[.string s] w fun r w' => r = .returned (CV s 0 0) ∧ Below w.heap.size w w' := by
  go_enter Tryd.func41, Tryd.ntmps41
  go_wp2
  refine bodyPost_ret (v := CV s 0 0) (by simp [results, Tryd.results41, go_sem]) rfl ⟨rfl, ?_⟩
  exact (Below.refl _ _).alloc (Nat.le_refl _) _


/-- A block of three cells that may be written. -/
structure Box (w : World) (b : Nat) (x y z : Value) : Prop where
  c0 : w.cell? ⟨b, 0, none⟩ = some x
  c1 : w.cell? ⟨b, 1, none⟩ = some y
  c2 : w.cell? ⟨b, 2, none⟩ = some z
  f0 : w.frozen? ⟨b, 0, none⟩ = false
  f1 : w.frozen? ⟨b, 1, none⟩ = false
  f2 : w.frozen? ⟨b, 2, none⟩ = false

theorem Box.below {w w' : World} {B b : Nat} {x y z : Value} (h : Box w b x y z) (hb : Below B w w') (hl : b < B) : Box w' b x y z :=
  ⟨(hb.cell (p := ⟨b, 0, none⟩) hl).trans h.c0, (hb.cell (p := ⟨b, 1, none⟩) hl).trans h.c1, (hb.cell (p := ⟨b, 2, none⟩) hl).trans h.c2,
   (hb.frozen (p := ⟨b, 0, none⟩) hl).trans h.f0, (hb.frozen (p := ⟨b, 1, none⟩) hl).trans h.f1, (hb.frozen (p := ⟨b, 2, none⟩) hl).trans h.f2⟩

theorem Box.new (w : World) (x y z : Value) (t : TypeId) : Box (w.alloc (.cells #[x, y, z] t)) w.heap.size x y z := by
  constructor <;> simp [go_sem]

theorem Box.alloc {w : World} {b : Nat} {x y z : Value} (h : Box w b x y z) (hl : b < w.heap.size) (o : Obj) : Box (w.alloc o) b x y z :=
  h.below ((Below.refl _ _).alloc (Nat.le_refl _) _) hl

theorem bcell {W w1 : World} (hb : Below W.heap.size W w1) : (∀ b o, b < W.heap.size → w1.cell? ⟨b, o, none⟩ = W.cell? ⟨b, o, none⟩) ∧ (∀ b o, b < W.heap.size → w1.frozen? ⟨b, o, none⟩ = W.frozen? ⟨b, o, none⟩) :=
  ⟨fun b o h => hb.cell (p := ⟨b, o, none⟩) h, fun b o h => hb.frozen (p := ⟨b, o, none⟩) h⟩

/-- What is left of a cursor. -/
def leftR (s : ByteArray) (p e : Int) : Int := if e = 0 ∧ 0 ≤ p ∧ p ≤ s.size then s.size - p else 0

theorem left_yes (s : ByteArray) (p : Int) (w : World) (hs : s.size ≤ maxLen) (h1 : 0 ≤ p) (h2 : p ≤ s.size) :
    Calls Tryd.prog 56 #[CV s p 0] w fun r w' => r = .returned (.int .i64 (s.size - p)) ∧ Below w.heap.size w w' := by
  have hs' := hs
  unfold maxLen at hs
  go_enter Tryd.func56, Tryd.ntmps56
  go_wp2_with fail
  refine (inside_yes s p 0 _ hs' h1 h2).mono ?_
  rintro r w1 ⟨rfl, hb⟩
  obtain ⟨hc, hf⟩ := bcell hb
  go_wp2
  go_ret
  exact ⟨rfl, ((Below.refl _ _).alloc (Nat.le_refl _) _).trans (hb.mono (by simp))⟩

theorem left_failed (s : ByteArray) (p e : Int) (w : World) (he : (e != 0) = true) :
    Calls Tryd.prog 56 #[CV s p e] w fun r w' => r = .returned (.int .i64 0) ∧ Below w.heap.size w w' := by
  go_enter Tryd.func56, Tryd.ntmps56
  go_wp2_with fail
  go_ret
  exact ⟨rfl, (Below.refl _ _).alloc (Nat.le_refl _) _⟩

theorem left_out (s : ByteArray) (p : Int) (w : World) (hs : s.size ≤ maxLen) (h : p < 0 ∨ s.size < p) :
    Calls Tryd.prog 56 #[CV s p 0] w fun r w' => r = .returned (.int .i64 0) ∧ Below w.heap.size w w' := by
  have H := Lib.hid h
  clear h
  go_enter Tryd.func56, Tryd.ntmps56
  go_wp2_with fail
  refine (inside_no s p 0 _ hs H.out).mono ?_
  rintro r w1 ⟨rfl, hb⟩
  obtain ⟨hc, hf⟩ := bcell hb
  go_wp2
  go_ret
  exact ⟨rfl, ((Below.refl _ _).alloc (Nat.le_refl _) _).trans (hb.mono (by simp))⟩

theorem left_any (s : ByteArray) (p e : Int) (w : World) (hs : s.size ≤ maxLen) :
    Calls Tryd.prog 56 #[CV s p e] w fun r w' => r = .returned (.int .i64 (leftR s p e)) ∧ Below w.heap.size w w' := by
  unfold leftR
  by_cases he : e = 0
  · subst he
    by_cases h : 0 ≤ p ∧ p ≤ s.size
    · rw [if_pos ⟨rfl, h⟩]; exact left_yes s p w hs h.1 h.2
    · rw [if_neg (fun x => h x.2)]; exact left_out s p w hs (by omega)
  · rw [if_neg (fun x => he x.1)]; exact left_failed s p e w (by simpa using he)

/-- What End tells. -/
def endR (s : ByteArray) (p e : Int) : Int := if e = 0 then (if 0 ≤ p ∧ p ≤ s.size then (if p < s.size then 5 else 0) else 2) else e

end Go.Proofs.YtcloakaenkhgpaaDoor.Oct
