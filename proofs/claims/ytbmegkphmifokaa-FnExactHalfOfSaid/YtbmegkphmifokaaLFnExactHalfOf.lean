/- FnExactHalfOf: for every input the law returns true and leaves its arguments as they were. No conditions. -/
import Derived.Test.YtbmegkphmifokaaWHalfOf
import Derived.ProofKit
import Derived.OpenShut
import Derived.ShutString
import Derived.ChangeOld
import Derived.Below
import Derived.Lib.SmallJoins
namespace Go.Proofs.Ytbmegkphmifokaa.fnExactHalfOf
open Go.ChangeShapes Go.WideShapes Go.ChangeAt Go.RowKit
open Go.ChangeMaps (open_string shut_string)
open Go.Joins (open_agg2 shut_agg2)
set_option linter.unusedVariables false

theorem cellsFrac : Try.prog.cellsOf 23 = 2 := by kernel_rfl
theorem own : ownKnob Try.prog.godebug = none := by kernel_rfl
theorem laidOut : laidOutB Try.prog = true := by kernel_rfl

end Go.Proofs.Ytbmegkphmifokaa.fnExactHalfOf
