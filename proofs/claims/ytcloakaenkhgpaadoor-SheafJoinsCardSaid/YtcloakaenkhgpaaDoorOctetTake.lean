/- Contract of Take of package octet: the text that it reads, for every cursor. -/
import Derived.Test.YtcloakaenkhgpaaDoorOctetNum
namespace Go.Proofs.YtcloakaenkhgpaaDoor.Oct
open Go.RowKit

/-- What Take reads: the place, the error, the text. -/
def takeR (s : ByteArray) (p e : Int) : Int × Int × ByteArray :=
  if (numR s p e 2).2.1 = 0 then
    (if s.size - (numR s p e 2).1 < (numR s p e 2).2.2 then (p, 3, ⟨#[]⟩)
     else ((numR s p e 2).1 + (numR s p e 2).2.2, 0, s.extract (numR s p e 2).1.toNat ((numR s p e 2).1 + (numR s p e 2).2.2).toNat))
  else ((numR s p e 2).1, (numR s p e 2).2.1, ⟨#[]⟩)

theorem numR_bad {s : ByteArray} {p e n : Int} (h : (numR s p e n).2.1 ≠ 0) : (numR s p e n).1 = p ∧ (numR s p e n).2.2 = 0 := by
  unfold numR at *
  split
  · split
    · split
      · exact ⟨rfl, rfl⟩
      · rename_i h1 h2 h3; simp [h1, h2, h3] at h
    · exact ⟨rfl, rfl⟩
  · exact ⟨rfl, rfl⟩

theorem numR_good {s : ByteArray} {p e n : Int} (h : (numR s p e n).2.1 = 0) :
    e = 0 ∧ 0 ≤ p ∧ 1 ≤ n ∧ n ≤ 7 ∧ p + n ≤ s.size ∧ numR s p e n = (p + n, 0, numAt s p n.toNat) := by
  unfold numR at *
  by_cases he : e = 0
  · rw [if_pos he] at h ⊢
    by_cases h2 : 0 ≤ p ∧ p ≤ s.size ∧ 1 ≤ n ∧ n ≤ 7
    · rw [if_pos h2] at h ⊢
      by_cases h3 : s.size - p < n
      · rw [if_pos h3] at h; simp at h
      · rw [if_neg h3]; exact ⟨he, by omega, by omega, by omega, by omega, rfl⟩
    · rw [if_neg h2] at h; simp at h
  · rw [if_neg he] at h; simp at h; omega

end Go.Proofs.YtcloakaenkhgpaaDoor.Oct
