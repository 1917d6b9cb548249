/- Walk: impl.readPlace. -/
import Derived.Test.YtlcepokenaiggabNode
namespace Go.Proofs.Ytlcepokenaiggab
open Go.RowKit

theorem head_of {l : List UInt8} {c : UInt8} (h : (l.head? == some c) = true) : ∃ r, l = c :: r := by
  cases l with
  | nil => simp at h
  | cons a r => simp at h; exact ⟨r, by rw [h]⟩

end Go.Proofs.Ytlcepokenaiggab
