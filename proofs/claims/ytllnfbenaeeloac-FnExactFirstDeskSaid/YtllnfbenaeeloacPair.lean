/- Walks: laws.toPair, szPair, eqPair; spec.prGood, impl.IsPair. -/
import Derived.Test.YtllnfbenaeeloacPairOf
import Derived.Test.YtllnfbenaeeloacAns
import Derived.Test.YtllnfbenaeeloacCount
import Derived.Test.YtllnfbenaeeloacQuiet
import Derived.Deep.RegionHeld3
namespace Go.Proofs.Ytllnfbenaeeloac
open Go.RowKit

/-- A pair of texts as a value. -/
abbrev pv (a b : ByteArray) : Value := .agg #[.string a, .string b]

theorem eqPair_same (a b : ByteArray) (w : World) :
    Calls Try.prog 6 #[.agg #[.string a, .string b], .agg #[.string a, .string b]] w (Gives (.bool true) w) := by
  go_enter Try.func6, Try.ntmps6
  go_wp2
  go_ret
  exact ⟨rfl, ((Below.refl _ _).alloc (Nat.le_refl _) _).alloc (by simp) _⟩

theorem pairOf_isSome (a b : ByteArray) (t u : Tr) (ha : treeOf a = some t) (hb : treeOf b = some u) : (pairOf a b).isSome = ((t.carets : Int) == (u.carets : Int)) := by
  unfold pairOf
  rw [ha, hb, Bool.eq_iff_iff, beq_iff_eq]
  by_cases h : t.carets = u.carets
  · simp [h]
  · simp only [h, if_false]; simp; omega

end Go.Proofs.Ytllnfbenaeeloac
