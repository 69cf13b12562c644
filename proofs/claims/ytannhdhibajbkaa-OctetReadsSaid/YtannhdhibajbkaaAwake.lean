/- awake, which every statement of the layer ends with, returns true; it writes nothing that was there. -/
import Derived.Test.YtannhdhibajbkaaPut
import Derived.Test.YtannhdhibajbkaaTake
import Derived.Laws.BytesArg
import Derived.Laws.IdiomStrings
namespace Go.Proofs.Ytannhdhibajbkaa
open Go.RowKit Go.Deep Go.Lib

theorem conv_reads {w : World} {a : Option Addr} {n cap : Nat} {l : List UInt8} (h : Reads w a n l) : (convert 22 9 (.slice a n cap)).run Try.prog w = .ok (.string ⟨l.toArray⟩) w := by
  obtain ⟨rfl, h2⟩ := h
  by_cases h0 : l.length = 0
  · obtain rfl := List.length_eq_zero_iff.1 h0
    cases a with
    | none => exact run_convert_bytes_nil w 22 5 Try.underlying22 Try.underlying5 _ _ 9 Try.underlying9
    | some ad => exact run_convert_bytes_back w 22 9 5 ad cap [] Try.underlying22 Try.underlying5 Try.underlying9 (fun j hj => by simp at hj)
  · obtain ⟨ad, rfl, hl, hc⟩ := h2 (by omega)
    exact run_convert_bytes_back w 22 9 5 ad cap l Try.underlying22 Try.underlying5 Try.underlying9 hc

theorem row_nine (w : World) : Row (w.alloc (.cells #[.int .u8 9] 5)) w.heap.size [9] := heap_alloc_new w _

theorem put_three (g : Nat) (w : World) (h : Row w g [9]) :
    Calls Try.prog 8 #[.slice (some ⟨g, 0, none⟩) 1 1, .int .i64 3, .int .i64 258] w fun r w' => r = .returned (.tuple #[.slice (some ⟨w.heap.size, 0, none⟩) 4 4, .int .i64 0]) ∧ Row w' w.heap.size [9, 0, 1, 2] ∧ Below w.heap.size w w' :=
  put_ok (some ⟨g, 0, none⟩) 1 1 [9] 3 258 w h.reads (by omega) (by omega) (by omega) (by omega) (by omega)

theorem str_ab (g : Nat) (w : World) (h : Row w g [9, 0, 1, 2]) :
    Calls Try.prog 10 #[.slice (some ⟨g, 0, none⟩) 4 4, .string ⟨#[97, 98]⟩] w fun r w' => r = .returned (.tuple #[.slice (some ⟨w.heap.size, 0, none⟩) 8 8, .int .i64 0]) ∧ Row w' w.heap.size [9, 0, 1, 2, 0, 2, 97, 98] ∧ Below w.heap.size w w' :=
  str_ok (some ⟨g, 0, none⟩) 4 4 [9, 0, 1, 2] ⟨#[97, 98]⟩ w h.reads (by omega) (by decide)

abbrev S8 : ByteArray := ⟨#[9, 0, 1, 2, 0, 2, 97, 98]⟩

theorem num_258 (w : World) :
    Calls Try.prog 23 #[CV S8 1 0, .int .i64 3] w fun r w' => r = .returned (.tuple #[CV S8 4 0, .int .i64 258]) ∧ Below w.heap.size w w' :=
  num_ok S8 1 3 w (by decide) (by decide) (by decide) (by decide) (by decide)

theorem take_ab (w : World) :
    Calls Try.prog 21 #[CV S8 4 0] w fun r w' => r = .returned (.tuple #[CV S8 8 0, .string ⟨#[97, 98]⟩]) ∧ Below w.heap.size w w' :=
  take_good S8 4 2 w (by decide) (by decide) (by decide) (by decide) (by decide)

theorem num_end (w : World) :
    Calls Try.prog 23 #[CV S8 8 0, .int .i64 1] w fun r w' => r = .returned (.tuple #[CV S8 8 3, .int .i64 0]) ∧ Below w.heap.size w w' :=
  num_cut S8 8 1 w (by decide) (by decide) (by decide) (by decide) (by decide) (by decide)

theorem put_256 (w : World) :
    Calls Try.prog 8 #[.slice none 0 0, .int .i64 1, .int .i64 256] w fun r w' => r = .returned (.tuple #[.slice none 0 0, .int .i64 8]) ∧ w = w' :=
  put_big none 0 0 1 256 w (by omega) (by omega) (by omega) (by omega)

theorem left_four (w : World) : Calls Try.prog 17 #[CV S8 4 0] w fun r w' => r = .returned (.int .i64 4) ∧ Below w.heap.size w w' :=
  left_yes S8 4 w (by decide) (by decide) (by decide)
theorem end_four (w : World) : Calls Try.prog 19 #[CV S8 4 0] w fun r w' => r = .returned (.int .i64 5) ∧ Below w.heap.size w w' :=
  end_in S8 4 w (by decide) (by decide) (by decide)
theorem end_eight (w : World) : Calls Try.prog 19 #[CV S8 8 0] w fun r w' => r = .returned (.int .i64 0) ∧ Below w.heap.size w w' :=
  end_in S8 8 w (by decide) (by decide) (by decide)

end Go.Proofs.Ytannhdhibajbkaa
