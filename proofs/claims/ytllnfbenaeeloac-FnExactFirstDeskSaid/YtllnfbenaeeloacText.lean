/- Walks: (*node).isLeaf, (*node).text. -/
import Derived.Test.YtllnfbenaeeloacNode
import Derived.Test.YtllnfbenaeeloacSpecTr
import Derived.Test.YtllnfbenaeeloacQuiet
namespace Go.Proofs.Ytllnfbenaeeloac
open Go.RowKit

theorem NodeAt.heap {w w' : World} (e : w'.heap = w.heap) : ∀ {t : Tr} {b : Nat}, NodeAt w t b → NodeAt w' t b := by
  intro t
  induction t with
  | lf => intro b h; unfold NodeAt at *; rw [e]; exact h
  | nd l r ihl ihr =>
    intro b h
    obtain ⟨bl, br, h, h1, h2⟩ := h
    exact ⟨bl, br, by rw [e]; exact h, ihl h1, ihr h2⟩
theorem NodeAt.drewN {w : World} (n : Nat) {t : Tr} {b : Nat} (h : NodeAt w t b) : NodeAt (w.drewN n) t b := NodeAt.heap (w := w) (w' := w.drewN n) rfl h

end Go.Proofs.Ytllnfbenaeeloac
