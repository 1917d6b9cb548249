/- The tree at an address. No program is named here. -/
import Derived.Test.YtkoebmdocenlkaaTrFn
namespace Go.Proofs.Ytkoebmdocenlkaa
def Tr.sub : Tr → List UInt8 → Option Tr
  | t, [] => some t
  | .lf, _ :: _ => none
  | .nd l r, c :: cs => if c = 48 then l.sub cs else if c = 49 then r.sub cs else none

theorem sub_carets : ∀ (l : List UInt8) (t u : Tr), t.sub l = some u → u.carets + l.length ≤ t.carets := by
  intro l
  induction l with
  | nil => intro t u h; simp [Tr.sub] at h; subst h; simp
  | cons c cs ih =>
    intro t u h
    cases t with
    | lf => simp [Tr.sub] at h
    | nd a b =>
      rw [Tr.sub] at h
      split at h
      · have := ih _ _ h; simp [Tr.carets]; omega
      · split at h
        · have := ih _ _ h; simp [Tr.carets]; omega
        · simp at h
end Go.Proofs.Ytkoebmdocenlkaa
