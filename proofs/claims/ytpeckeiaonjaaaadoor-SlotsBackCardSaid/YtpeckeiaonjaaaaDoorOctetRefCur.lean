/- Contracts of the document's answer (errandref01) for cursors: fine, Left, End, New, Num, Take; and of Own and Back of the statements. -/
import Derived.Test.YtpeckeiaonjaaaaDoorOct
namespace Go.Proofs.YtpeckeiaonjaaaaDoor.Oct
open Go.RowKit

theorem num_step2 (s : ByteArray) (p k : Nat) (hk : k < 7) (h : p + k < s.size) :
    wrap64 (wrap64 (numAt s p k * 256) + wrap64 s[p + k].toNat) = numAt s p (k + 1) := by
  have hb := s[p + k].toNat_lt
  have h1 := numAt_nonneg s p k
  have h2 := numAt_succ s p k h
  have h3 := numAt_lt s p (k + 1) (by omega)
  rw [IntWalk.wrap64_in (numAt s p k * 256) (by omega), IntWalk.wrap64_in (s[p + k].toNat : Int) (by omega), IntWalk.wrap64_in _ (by omega), h2]

end Go.Proofs.YtpeckeiaonjaaaaDoor.Oct
