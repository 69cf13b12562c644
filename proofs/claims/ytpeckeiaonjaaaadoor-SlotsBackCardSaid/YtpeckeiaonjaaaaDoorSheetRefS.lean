/- Contracts of the document's answer for package sheet (errandref04). -/
import Derived.Test.YtpeckeiaonjaaaaDoorOctetRefPut
import Derived.Test.YtpeckeiaonjaaaaDoorOctetRefTake
import Derived.Test.YtpeckeiaonjaaaaDoorSheetSeal
import Derived.Test.YtpeckeiaonjaaaaDoorSheetOpenC
import Derived.Laws.BytesArg
import Derived.Laws.IdiomStrings
namespace Go.Proofs.YtpeckeiaonjaaaaDoor.Sht
open Go.RowKit Go.Proofs.YtpeckeiaonjaaaaDoor.Oct

theorem conv_reads {w : World} {a : Option Addr} {n cap : Nat} {l : List UInt8} (h : Reads w a n l) : (convert 43 9 (.slice a n cap)).run Tryd.prog w = .ok (.string ⟨l.toArray⟩) w := by
  obtain ⟨rfl, h2⟩ := h
  by_cases h0 : l.length = 0
  · obtain rfl := List.length_eq_zero_iff.1 h0
    cases a with
    | none => exact run_convert_bytes_nil w 43 5 Tryd.underlying43 Tryd.underlying5 _ _ 9 Tryd.underlying9
    | some ad => exact run_convert_bytes_back w 43 9 5 ad cap [] Tryd.underlying43 Tryd.underlying5 Tryd.underlying9 (fun j hj => by simp at hj)
  · obtain ⟨ad, rfl, hl, hc⟩ := h2 (by omega)
    exact run_convert_bytes_back w 43 9 5 ad cap l Tryd.underlying43 Tryd.underlying5 Tryd.underlying9 hc

/-- Numbers of as many bytes are the same just if the bytes are. -/
theorem natBE_inj : ∀ n, ∀ l m : List UInt8, l.length = n → m.length = n → natBE l = natBE m → l = m := by
  intro n
  induction n with
  | zero => intro l m hl hm _; rw [List.length_eq_zero_iff.1 hl, List.length_eq_zero_iff.1 hm]
  | succ n ih =>
    intro l m hl hm h
    have snoc : ∀ k : List UInt8, k.length = n + 1 → ∃ k' b, k = k' ++ [b] ∧ k'.length = n := by
      intro k hk
      rcases List.eq_nil_or_concat k with rfl | ⟨k', b, rfl⟩
      · simp at hk
      · exact ⟨k', b, by simp, by simpa using hk⟩
    obtain ⟨l', a, rfl, hl'⟩ := snoc l hl
    obtain ⟨m', b, rfl, hm'⟩ := snoc m hm
    rw [natBE_snoc, natBE_snoc] at h
    have ha := a.toNat_lt
    have hb := b.toNat_lt
    have e1 : natBE l' = natBE m' := by omega
    have e2 : a = b := UInt8.toNat_inj.1 (by omega)
    rw [ih l' m' hl' hm' e1, e2]

end Go.Proofs.YtpeckeiaonjaaaaDoor.Sht
