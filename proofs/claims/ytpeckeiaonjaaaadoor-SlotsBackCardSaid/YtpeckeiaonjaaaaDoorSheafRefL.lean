/- Contract of load of the document's answer (errandref05). -/
import Derived.Test.YtpeckeiaonjaaaaDoorSheafLoad
namespace Go.Proofs.YtpeckeiaonjaaaaDoor.Shf
open Go.RowKit Go.Proofs.YtpeckeiaonjaaaaDoor.Oct Go.Proofs.YtpeckeiaonjaaaaDoor.Crc

theorem conv_made (w : World) (n : Nat) : (convert 43 9 (.slice (some ⟨w.heap.size, 0, none⟩) n n)).run Tryd.prog (w.alloc (.cells (madeCells #[.int .u8 0] n) 5)) = .ok (.string ⟨(List.replicate n 0).toArray⟩) (w.alloc (.cells (madeCells #[.int .u8 0] n) 5)) := by
  have h := (made_row w n).reads
  rw [List.length_replicate] at h
  exact Sht.conv_reads h

/-- How many parts a text takes. -/
def cntN (n : Nat) : Nat := (n + 44) / 37
theorem cnt_eq (n : Nat) (h : (n : Int) ≤ 16000) : cntR n = cntN n := by unfold cntR cntN; rw [if_pos (by omega)]; omega

end Go.Proofs.YtpeckeiaonjaaaaDoor.Shf
