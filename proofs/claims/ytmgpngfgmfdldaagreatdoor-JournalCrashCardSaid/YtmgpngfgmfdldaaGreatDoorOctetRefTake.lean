/- Contracts of Num and Take of the document's answer (errandref01). -/
import Derived.Test.YtmgpngfgmfdldaaGreatDoorOctetRefCur
import Derived.BigRegion
import Derived.ChangeAlike
namespace Go.Proofs.YtmgpngfgmfdldaaGreatDoor.Oct
open Go.RowKit

theorem rnum_any (s : ByteArray) (p e n : Int) (w : World) (hs : s.size ≤ maxLen) :
    Calls Tryz.prog 101 #[CV s p e, .int .i64 n] w fun r w' => r = .returned (.tuple #[CV s (numR s p e n).1 (numR s p e n).2.1, .int .i64 (numR s p e n).2.2]) ∧ Below w.heap.size w w' := by
  unfold numR
  by_cases he : e = 0
  · subst he
    rw [if_pos rfl]
    by_cases h : 0 ≤ p ∧ p ≤ s.size ∧ 1 ≤ n ∧ n ≤ 7
    · rw [if_pos h]
      obtain ⟨h1, h2, h3, h4⟩ := h
      by_cases hc : s.size - p < n
      · rw [if_pos hc]; exact rnum_cut s p n w hs h1 h2 h3 h4 hc
      · rw [if_neg hc]; exact rnum_ok s p n w hs h1 (by omega) h3 h4
    · rw [if_neg h]; exact rnum_arg s p n w h
  · rw [if_neg he]; exact rnum_failed s p e n w (by simpa using he)

end Go.Proofs.YtmgpngfgmfdldaaGreatDoor.Oct
