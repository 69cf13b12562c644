/- The laws of stage 15 over what comes in. -/
import Derived.Test.YtplobfnljlnkkaaDoorFldFolW
import Derived.Test.YtplobfnljlnkkaaDoorFldLawB
import Derived.Test.YtplobfnljlnkkaaDoorFldRowW
import Derived.Test.YtplobfnljlnkkaaDoorHdl
import Derived.Test.YtplobfnljlnkkaaDoorOpn
namespace Go.Proofs.YtplobfnljlnkkaaDoor
open Go.ChangeShapes Go.WideShapes Go.ChangeAt Go.RowKit
open Go.Proofs.YtplobfnljlnkkaaDoor.Flt Go.Proofs.YtplobfnljlnkkaaDoor.Tre Go.Proofs.YtplobfnljlnkkaaDoor.Fld Go.Proofs.YtplobfnljlnkkaaDoor.Opn
section
variable {H : Type} {enc : TypeId × Value → H} {w : World} {base : Nat} {spare : Nat → Bool} {held : Bool}
theorem maxLen_le : maxLen ≤ 9223372036854775807 := by decide
theorem cS : Tryd.prog.cellsOf 9 = 1 := by kernel_rfl
theorem cP : Tryd.prog.cellsOf 60 = 1 + 1 := by kernel_rfl
theorem cI : Tryd.prog.cellsOf 3 = 1 := by kernel_rfl
theorem cL : Tryd.prog.cellsOf 40 = 1 + 1 := by kernel_rfl
theorem cPs : Tryd.prog.cellsOf 38 = 1 := by kernel_rfl
theorem reads_texts : Reads enc Tryd.prog w base spare held 37 (fun ts : List ByteArray => [txD ts]) (fun ts => ts.length ≤ maxLen ∧ ∀ s ∈ ts, s.size ≤ maxLen) := reads_slice Tryd.underlying37 cS (by omega) (fun _ => rfl) (reads_string Tryd.underlying9)
set_option maxRecDepth 100000 in
/-- A slice of texts that came in. -/
theorem open_texts {r : Reach} {b0 : Nat} {v : Value} {d : DataW H} {p : List MemPlace} (hv : Value.okWide Tryd.prog w r b0 37 v) (h : DataW.Trod enc Tryd.prog w base spare held 37 v d p) :
    ∃ (a : Option Addr) (c : Nat) (ts : List ByteArray), v = .slice a ts.length c ∧ Rd w (txD ts) (.slice a ts.length c) ∧ ts.length ≤ 9223372036854775807 := by
  obtain ⟨ts, hok, hr⟩ := arg_slice (D := fun ts : List ByteArray => txD ts) Tryd.underlying37 (fun _ => rfl) reads_texts hv h
  obtain ⟨a, c, rfl, _⟩ := hr.slice
  exact ⟨a, c, ts, rfl, hr, Nat.le_trans hok.1 maxLen_le⟩
theorem reads_piece : Reads enc Tryd.prog w base spare held 60 (fun x : Int × Int => [Dat.one (.int .i64 x.1)] ++ [.one (.int .i64 x.2)]) (fun x => (Lit.int .i64 x.1).wf = true ∧ (Lit.int .i64 x.2).wf = true) :=
  reads_two Tryd.underlying60 rfl cI rfl cI cP (reads_int Tryd.underlying3) (reads_int Tryd.underlying3)
theorem reads_line : Reads enc Tryd.prog w base spare held 40 (fun x : ByteArray × List (Int × Int) => [Dat.one (.string x.1)] ++ [pD 60 x.2]) (fun x => x.1.size ≤ maxLen ∧ x.2.length ≤ maxLen ∧ ∀ q ∈ x.2, (Lit.int .i64 q.1).wf = true ∧ (Lit.int .i64 q.2).wf = true) :=
  reads_two Tryd.underlying40 rfl cS rfl cPs cL (reads_string Tryd.underlying9) (reads_slice Tryd.underlying38 cP (by omega) (fun _ => rfl) reads_piece)
set_option maxRecDepth 100000 in
/-- A line that came in. -/
theorem open_line {r : Reach} {b0 : Nat} {v : Value} {d : DataW H} {p : List MemPlace} (hv : Value.okWide Tryd.prog w r b0 40 v) (h : DataW.Trod enc Tryd.prog w base spare held 40 v d p) :
    ∃ (l : PL) (a : Option Addr) (c : Nat), v = .agg #[.string ⟨l.t.toArray⟩, .slice a l.ps.length c] ∧ Rd w (pD 60 l.ps) (.slice a l.ps.length c) ∧ ∀ q ∈ l.ps, (-9223372036854775808 ≤ q.1 ∧ q.1 ≤ 9223372036854775807) ∧ -9223372036854775808 ≤ q.2 ∧ q.2 ≤ 9223372036854775807 := by
  obtain ⟨x, cs, hok, rfl, hr⟩ := arg_struct Tryd.underlying40 reads_line hv h
  obtain ⟨s, ps⟩ := x
  match cs, hr.1 with
  | [u, q], _ =>
    have h0 := (hr.2 0 _ _ rfl rfl).val
    have h1 := hr.2 1 _ _ rfl rfl
    obtain ⟨a, c, rfl, _⟩ := h1.slice
    subst h0
    exact ⟨⟨s.data.toList, ps⟩, a, c, rfl, h1, fun y hy => ⟨i64_in (hok.2.2 y hy).1, i64_in (hok.2.2 y hy).2⟩⟩
end
theorem unfolds_b (s : ByteArray) (w : World) (hT : ETab w) : Calls Tryd.prog 3 #[.string s] w fun r w' => r = .returned (.bool true) ∧ Below w.heap.size w w' := walk_unfolds s w hT
theorem places_b (s : ByteArray) (w : World) (hT : ETab w) : Calls Tryd.prog 7 #[.string s] w fun r w' => r = .returned (.bool true) ∧ Below w.heap.size w w' := walk_places s w hT
theorem rows_b (s : ByteArray) (w : World) (hT : ETab w) : Calls Tryd.prog 6 #[.string s] w fun r w' => r = .returned (.bool true) ∧ Below w.heap.size w w' := walk_rows s w hT
theorem back_b (a : Option Addr) (c : Nat) (ts : List ByteArray) (w : World) (hT : ETab w) (h : Rd w (txD ts) (.slice a ts.length c)) (hm : ts.length ≤ 9223372036854775807) : Calls Tryd.prog 5 #[.slice a ts.length c] w fun r w' => r = .returned (.bool true) ∧ Below w.heap.size w w' := walk_back ts a c w hT h hm
theorem folds_b (a : Option Addr) (c : Nat) (ts : List ByteArray) (l : PL) (pa : Option Addr) (pc : Nat) (i : Int) (hi : (Lit.int .i64 i).wf = true) (w : World) (hT : ETab w) (h : Rd w (txD ts) (.slice a ts.length c)) (hp : Rd w (pD 60 l.ps) (.slice pa l.ps.length pc)) (hin : ∀ q ∈ l.ps, (-9223372036854775808 ≤ q.1 ∧ q.1 ≤ 9223372036854775807) ∧ -9223372036854775808 ≤ q.2 ∧ q.2 ≤ 9223372036854775807) :
    Calls Tryd.prog 4 #[.slice a ts.length c, .agg #[.string ⟨l.t.toArray⟩, .slice pa l.ps.length pc], .int .i64 i] w fun r w' => r = .returned (.bool true) ∧ Below w.heap.size w w' := walk_folds ts a c l pa pc i w hT h hp (i64_in hi).1 (i64_in hi).2 hin
end Go.Proofs.YtplobfnljlnkkaaDoor
