/- Walks: (*node).at. -/
import Derived.Test.YtkoebmdocenlkaaText
import Derived.Test.YtkoebmdocenlkaaAtP
import Derived.Test.YtkoebmdocenlkaaTrOf
namespace Go.Proofs.Ytkoebmdocenlkaa
open Go.RowKit

theorem eqFn (f b : Nat) (w : World) : (binOp .eql 57 (.func (.func f) #[.pointer (some ⟨b, 0, none⟩)] #[]) .nilFunc).run Try.prog w = .ok (.bool false) w := by kernel_rfl
theorem eqNil (w : World) : (binOp .eql 57 .nilFunc .nilFunc).run Try.prog w = .ok (.bool true) w := by kernel_rfl

def AtPost (o : Option Tr) (w : World) (e : Ending) (w' : World) : Prop :=
  match o with
  | some u => ∃ b, NodeAt w u b ∧ e = .returned (.pointer (some ⟨b, 0, none⟩)) ∧ w = w'
  | none => e = .returned (.pointer none) ∧ w = w'

end Go.Proofs.Ytkoebmdocenlkaa
