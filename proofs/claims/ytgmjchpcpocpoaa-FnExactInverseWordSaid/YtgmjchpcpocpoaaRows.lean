/-
  No cell of these rows narrows 'for every input' (looked for: loops, veiled, ifaces, maps, wideKeys, modest, calm, conditions, laid).
  DERIVED. THE GIVEN ROWS OF THIS SEAT. 11 by the template 'for every input the law returns true; each argument reads behind the call as it read before'; 0 by the template 'total and deterministic' (their statements: YtgmjchpcpocpoaaTotals.lean).
  GIVEN WITH THE SEED: the statements are not yours to turn. If you find one false, say at which input.
  Laid BY PROGRAM, IN A SANDBOX (cutbox-rows.mjs): the forced cells as the released guide's own fill.sh prints them over the translation 9d1b87e2777a5b79… (all of the seat's roots in one cut). By AI agents, Wed Nov 11 2026. No macro, syntax, notation, axiom, sorry.
-/
import Derived.Test.YtgmjchpcpocpoaaChecked
import GoSem.Claim
import GoSem.ClaimJoined
import GoSem.ClaimMapViews
import Derived.JoinedTies
import Derived.KernelRfl
namespace Go.Proofs.Ytgmjchpcpocpoaa
/- THE CELL 'sum', in the pinned program and in every row, IS THE sha256 OF THE DUMP (.gsa) THAT YtgmjchpcpocpoaaProg.lean LOADS. Nothing in Lean hashes anything: it is a label: what it is worth is what the hold of that sum in a sandbox is worth. -/
noncomputable def Try.pinned : Pinned := { name := "ytgmjchpcpocpoaa", sum := "9d1b87e2777a5b794538b422f2be298cb155c68d7f3e20e63edbbe43a8a32d8e", checked := Try.checked }
namespace Rows
def none {H : Type} : Left H := { results := [], args := [] }

/-- 'laws.FnExactIsWord': WHATEVER THE INPUT: true; the input reads as it did. -/
def fnExactIsWordSpec : ChangeSpec := { name := "fnExactIsWord", fn := fun _ => fun
  | [d] => { results := [.lit (.bool true)], args := [d] }
  | _ => none }
def fnExactIsWordRow : OpenClaim := { program := "ytgmjchpcpocpoaa", sum := "9d1b87e2777a5b794538b422f2be298cb155c68d7f3e20e63edbbe43a8a32d8e", func := "loop.example/g01161/laws.FnExactIsWord", spec := "fnExactIsWord", apart := false }
def FnExactIsWordSaid : Prop := fnExactIsWordRow.holds Try.pinned (OpenSpec.ofChange fnExactIsWordSpec)

/-- ITS FALSE NEIGHBOUR: 'it returns false'. Refute it at one input. -/
def fnExactIsWordWrong : ChangeSpec := { name := "fnExactIsWord", fn := fun _ => fun
  | [d] => { results := [.lit (.bool false)], args := [d] }
  | _ => none }
def FnExactIsWordWrongFalsely : Prop := fnExactIsWordRow.holds Try.pinned (OpenSpec.ofChange fnExactIsWordWrong)

/-- 'laws.FnExactInverseWord': WHATEVER THE INPUT: true; the input reads as it did. -/
def fnExactInverseWordSpec : ChangeSpec := { name := "fnExactInverseWord", fn := fun _ => fun
  | [d] => { results := [.lit (.bool true)], args := [d] }
  | _ => none }
def fnExactInverseWordRow : OpenClaim := { program := "ytgmjchpcpocpoaa", sum := "9d1b87e2777a5b794538b422f2be298cb155c68d7f3e20e63edbbe43a8a32d8e", func := "loop.example/g01161/laws.FnExactInverseWord", spec := "fnExactInverseWord", unfollowed := true, recurses := true, apart := false }
def FnExactInverseWordSaid : Prop := fnExactInverseWordRow.holds Try.pinned (OpenSpec.ofChange fnExactInverseWordSpec)

/-- ITS FALSE NEIGHBOUR: 'it returns false'. Refute it at one input. -/
def fnExactInverseWordWrong : ChangeSpec := { name := "fnExactInverseWord", fn := fun _ => fun
  | [d] => { results := [.lit (.bool false)], args := [d] }
  | _ => none }
def FnExactInverseWordWrongFalsely : Prop := fnExactInverseWordRow.holds Try.pinned (OpenSpec.ofChange fnExactInverseWordWrong)

/-- 'laws.FnExactFreeReduce': WHATEVER THE INPUT: true; the input reads as it did. -/
def fnExactFreeReduceSpec : ChangeSpec := { name := "fnExactFreeReduce", fn := fun _ => fun
  | [d] => { results := [.lit (.bool true)], args := [d] }
  | _ => none }
def fnExactFreeReduceRow : OpenClaim := { program := "ytgmjchpcpocpoaa", sum := "9d1b87e2777a5b794538b422f2be298cb155c68d7f3e20e63edbbe43a8a32d8e", func := "loop.example/g01161/laws.FnExactFreeReduce", spec := "fnExactFreeReduce", apart := false }
def FnExactFreeReduceSaid : Prop := fnExactFreeReduceRow.holds Try.pinned (OpenSpec.ofChange fnExactFreeReduceSpec)

/-- ITS FALSE NEIGHBOUR: 'it returns false'. Refute it at one input. -/
def fnExactFreeReduceWrong : ChangeSpec := { name := "fnExactFreeReduce", fn := fun _ => fun
  | [d] => { results := [.lit (.bool false)], args := [d] }
  | _ => none }
def FnExactFreeReduceWrongFalsely : Prop := fnExactFreeReduceRow.holds Try.pinned (OpenSpec.ofChange fnExactFreeReduceWrong)

/-- 'laws.FnExactSumsOfWord': WHATEVER THE INPUT: true; the input reads as it did. -/
def fnExactSumsOfWordSpec : ChangeSpec := { name := "fnExactSumsOfWord", fn := fun _ => fun
  | [d] => { results := [.lit (.bool true)], args := [d] }
  | _ => none }
def fnExactSumsOfWordRow : OpenClaim := { program := "ytgmjchpcpocpoaa", sum := "9d1b87e2777a5b794538b422f2be298cb155c68d7f3e20e63edbbe43a8a32d8e", func := "loop.example/g01161/laws.FnExactSumsOfWord", spec := "fnExactSumsOfWord", apart := false }
def FnExactSumsOfWordSaid : Prop := fnExactSumsOfWordRow.holds Try.pinned (OpenSpec.ofChange fnExactSumsOfWordSpec)

/-- ITS FALSE NEIGHBOUR: 'it returns false'. Refute it at one input. -/
def fnExactSumsOfWordWrong : ChangeSpec := { name := "fnExactSumsOfWord", fn := fun _ => fun
  | [d] => { results := [.lit (.bool false)], args := [d] }
  | _ => none }
def FnExactSumsOfWordWrongFalsely : Prop := fnExactSumsOfWordRow.holds Try.pinned (OpenSpec.ofChange fnExactSumsOfWordWrong)

/-- 'laws.FnExactShiftWord': WHATEVER THE INPUT: true; the input reads as it did. -/
def fnExactShiftWordSpec : ChangeSpec := { name := "fnExactShiftWord", fn := fun _ => fun
  | [d1, d2] => { results := [.lit (.bool true)], args := [d1, d2] }
  | _ => none }
def fnExactShiftWordRow : OpenClaim := { program := "ytgmjchpcpocpoaa", sum := "9d1b87e2777a5b794538b422f2be298cb155c68d7f3e20e63edbbe43a8a32d8e", func := "loop.example/g01161/laws.FnExactShiftWord", spec := "fnExactShiftWord", apart := false }
def FnExactShiftWordSaid : Prop := fnExactShiftWordRow.holds Try.pinned (OpenSpec.ofChange fnExactShiftWordSpec)

/-- ITS FALSE NEIGHBOUR: 'it returns false'. Refute it at one input. -/
def fnExactShiftWordWrong : ChangeSpec := { name := "fnExactShiftWord", fn := fun _ => fun
  | [d1, d2] => { results := [.lit (.bool false)], args := [d1, d2] }
  | _ => none }
def FnExactShiftWordWrongFalsely : Prop := fnExactShiftWordRow.holds Try.pinned (OpenSpec.ofChange fnExactShiftWordWrong)

/-- 'laws.FnExactIsNormal': WHATEVER THE INPUT: true; the input reads as it did. -/
def fnExactIsNormalSpec : ChangeSpec := { name := "fnExactIsNormal", fn := fun _ => fun
  | [d] => { results := [.lit (.bool true)], args := [d] }
  | _ => none }
def fnExactIsNormalRow : OpenClaim := { program := "ytgmjchpcpocpoaa", sum := "9d1b87e2777a5b794538b422f2be298cb155c68d7f3e20e63edbbe43a8a32d8e", func := "loop.example/g01161/laws.FnExactIsNormal", spec := "fnExactIsNormal", unfollowed := true, recurses := true, apart := false }
def FnExactIsNormalSaid : Prop := fnExactIsNormalRow.holds Try.pinned (OpenSpec.ofChange fnExactIsNormalSpec)

/-- ITS FALSE NEIGHBOUR: 'it returns false'. Refute it at one input. -/
def fnExactIsNormalWrong : ChangeSpec := { name := "fnExactIsNormal", fn := fun _ => fun
  | [d] => { results := [.lit (.bool false)], args := [d] }
  | _ => none }
def FnExactIsNormalWrongFalsely : Prop := fnExactIsNormalRow.holds Try.pinned (OpenSpec.ofChange fnExactIsNormalWrong)

/-- 'laws.FnExactRuleStep': WHATEVER THE INPUT: true; the input reads as it did. -/
def fnExactRuleStepSpec : ChangeSpec := { name := "fnExactRuleStep", fn := fun _ => fun
  | [d] => { results := [.lit (.bool true)], args := [d] }
  | _ => none }
def fnExactRuleStepRow : OpenClaim := { program := "ytgmjchpcpocpoaa", sum := "9d1b87e2777a5b794538b422f2be298cb155c68d7f3e20e63edbbe43a8a32d8e", func := "loop.example/g01161/laws.FnExactRuleStep", spec := "fnExactRuleStep", unfollowed := true, recurses := true, apart := false }
def FnExactRuleStepSaid : Prop := fnExactRuleStepRow.holds Try.pinned (OpenSpec.ofChange fnExactRuleStepSpec)

/-- ITS FALSE NEIGHBOUR: 'it returns false'. Refute it at one input. -/
def fnExactRuleStepWrong : ChangeSpec := { name := "fnExactRuleStep", fn := fun _ => fun
  | [d] => { results := [.lit (.bool false)], args := [d] }
  | _ => none }
def FnExactRuleStepWrongFalsely : Prop := fnExactRuleStepRow.holds Try.pinned (OpenSpec.ofChange fnExactRuleStepWrong)

/-- 'laws.FnExactSortedWord': WHATEVER THE INPUT: true; the input reads as it did. -/
def fnExactSortedWordSpec : ChangeSpec := { name := "fnExactSortedWord", fn := fun _ => fun
  | [d] => { results := [.lit (.bool true)], args := [d] }
  | _ => none }
def fnExactSortedWordRow : OpenClaim := { program := "ytgmjchpcpocpoaa", sum := "9d1b87e2777a5b794538b422f2be298cb155c68d7f3e20e63edbbe43a8a32d8e", func := "loop.example/g01161/laws.FnExactSortedWord", spec := "fnExactSortedWord", unfollowed := true, recurses := true, apart := false }
def FnExactSortedWordSaid : Prop := fnExactSortedWordRow.holds Try.pinned (OpenSpec.ofChange fnExactSortedWordSpec)

/-- ITS FALSE NEIGHBOUR: 'it returns false'. Refute it at one input. -/
def fnExactSortedWordWrong : ChangeSpec := { name := "fnExactSortedWord", fn := fun _ => fun
  | [d] => { results := [.lit (.bool false)], args := [d] }
  | _ => none }
def FnExactSortedWordWrongFalsely : Prop := fnExactSortedWordRow.holds Try.pinned (OpenSpec.ofChange fnExactSortedWordWrong)

/-- 'laws.FnExactRuleSteps': WHATEVER THE INPUT: true; the input reads as it did. -/
def fnExactRuleStepsSpec : ChangeSpec := { name := "fnExactRuleSteps", fn := fun _ => fun
  | [d] => { results := [.lit (.bool true)], args := [d] }
  | _ => none }
def fnExactRuleStepsRow : OpenClaim := { program := "ytgmjchpcpocpoaa", sum := "9d1b87e2777a5b794538b422f2be298cb155c68d7f3e20e63edbbe43a8a32d8e", func := "loop.example/g01161/laws.FnExactRuleSteps", spec := "fnExactRuleSteps", unfollowed := true, recurses := true, apart := false }
def FnExactRuleStepsSaid : Prop := fnExactRuleStepsRow.holds Try.pinned (OpenSpec.ofChange fnExactRuleStepsSpec)

/-- ITS FALSE NEIGHBOUR: 'it returns false'. Refute it at one input. -/
def fnExactRuleStepsWrong : ChangeSpec := { name := "fnExactRuleSteps", fn := fun _ => fun
  | [d] => { results := [.lit (.bool false)], args := [d] }
  | _ => none }
def FnExactRuleStepsWrongFalsely : Prop := fnExactRuleStepsRow.holds Try.pinned (OpenSpec.ofChange fnExactRuleStepsWrong)

/-- 'laws.FnExactDropStep': WHATEVER THE INPUT: true; the input reads as it did. -/
def fnExactDropStepSpec : ChangeSpec := { name := "fnExactDropStep", fn := fun _ => fun
  | [d] => { results := [.lit (.bool true)], args := [d] }
  | _ => none }
def fnExactDropStepRow : OpenClaim := { program := "ytgmjchpcpocpoaa", sum := "9d1b87e2777a5b794538b422f2be298cb155c68d7f3e20e63edbbe43a8a32d8e", func := "loop.example/g01161/laws.FnExactDropStep", spec := "fnExactDropStep", unfollowed := true, recurses := true, apart := false }
def FnExactDropStepSaid : Prop := fnExactDropStepRow.holds Try.pinned (OpenSpec.ofChange fnExactDropStepSpec)

/-- ITS FALSE NEIGHBOUR: 'it returns false'. Refute it at one input. -/
def fnExactDropStepWrong : ChangeSpec := { name := "fnExactDropStep", fn := fun _ => fun
  | [d] => { results := [.lit (.bool false)], args := [d] }
  | _ => none }
def FnExactDropStepWrongFalsely : Prop := fnExactDropStepRow.holds Try.pinned (OpenSpec.ofChange fnExactDropStepWrong)

/-- 'laws.FnExactNormalByRules': WHATEVER THE INPUT: true; the input reads as it did. -/
def fnExactNormalByRulesSpec : ChangeSpec := { name := "fnExactNormalByRules", fn := fun _ => fun
  | [d] => { results := [.lit (.bool true)], args := [d] }
  | _ => none }
def fnExactNormalByRulesRow : OpenClaim := { program := "ytgmjchpcpocpoaa", sum := "9d1b87e2777a5b794538b422f2be298cb155c68d7f3e20e63edbbe43a8a32d8e", func := "loop.example/g01161/laws.FnExactNormalByRules", spec := "fnExactNormalByRules", unfollowed := true, recurses := true, apart := false }
def FnExactNormalByRulesSaid : Prop := fnExactNormalByRulesRow.holds Try.pinned (OpenSpec.ofChange fnExactNormalByRulesSpec)

/-- ITS FALSE NEIGHBOUR: 'it returns false'. Refute it at one input. -/
def fnExactNormalByRulesWrong : ChangeSpec := { name := "fnExactNormalByRules", fn := fun _ => fun
  | [d] => { results := [.lit (.bool false)], args := [d] }
  | _ => none }
def FnExactNormalByRulesWrongFalsely : Prop := fnExactNormalByRulesRow.holds Try.pinned (OpenSpec.ofChange fnExactNormalByRulesWrong)

/- THE SECOND FORM. 'bulk': how many values and letters a reading holds, each counted each time it is reached (what is shared counts as often as it is met; a slice's spare places count too). A statement '..UptoSaid' is the law's where the arguments, and the package variables that the reading takes, are together of bulk at most 1048576: NARROWER than '..Said'. Prove '..Said' where nothing that the law and all that it calls make is longer than what came in: it says more and counts as full. Else prove '..UptoSaid'. A law counts once. -/
mutual
def uptoBulk {H : Type} : DataW H → Nat
  | .lit (.string bytes) => bytes.length + 1
  | .lit _ => 1
  | .nil => 1
  | .ptr d => uptoBulk d + 1
  | .slice elems spare => uptoBulkAll elems + uptoBulkAll spare + 1
  | .agg parts => uptoBulkAll parts + 1
  | .iface _ d => uptoBulk d + 1
  | .map entries => uptoBulkEntries entries + 1
  | .held _ => 1
def uptoBulkAll {H : Type} : List (DataW H) → Nat
  | [] => 0
  | d :: r => uptoBulk d + uptoBulkAll r
def uptoBulkEntries {H : Type} : List (Lit × DataW H) → Nat
  | [] => 0
  | x :: r => uptoBulkEntry x + uptoBulkEntries r
def uptoBulkEntry {H : Type} : Lit × DataW H → Nat
  | (.string bytes, d) => bytes.length + uptoBulk d + 1
  | (_, d) => uptoBulk d + 1
 end
def uptoSmall : (H : Type) → List (DataW H) → Bool := fun _ ds => decide (uptoBulkAll ds ≤ 1048576)
def OpenSpec.upto (s : _root_.Go.ChangeSpec) : _root_.Go.OpenSpec := { _root_.Go.OpenSpec.ofChange s with cond := some uptoSmall }

/-- 'laws.FnExactIsWord', WHERE WHAT IT READS IS OF BULK AT MOST 1048576: true; the input reads as it did. -/
def fnExactIsWordUptoRow : OpenClaim := { program := "ytgmjchpcpocpoaa", sum := "9d1b87e2777a5b794538b422f2be298cb155c68d7f3e20e63edbbe43a8a32d8e", func := "loop.example/g01161/laws.FnExactIsWord", spec := "fnExactIsWord", apart := false, narrowed := true }
def FnExactIsWordUptoSaid : Prop := fnExactIsWordUptoRow.holds Try.pinned (OpenSpec.upto fnExactIsWordSpec)

/-- 'laws.FnExactInverseWord', WHERE WHAT IT READS IS OF BULK AT MOST 1048576: true; the input reads as it did. -/
def fnExactInverseWordUptoRow : OpenClaim := { program := "ytgmjchpcpocpoaa", sum := "9d1b87e2777a5b794538b422f2be298cb155c68d7f3e20e63edbbe43a8a32d8e", func := "loop.example/g01161/laws.FnExactInverseWord", spec := "fnExactInverseWord", unfollowed := true, recurses := true, apart := false, narrowed := true }
def FnExactInverseWordUptoSaid : Prop := fnExactInverseWordUptoRow.holds Try.pinned (OpenSpec.upto fnExactInverseWordSpec)

/-- 'laws.FnExactFreeReduce', WHERE WHAT IT READS IS OF BULK AT MOST 1048576: true; the input reads as it did. -/
def fnExactFreeReduceUptoRow : OpenClaim := { program := "ytgmjchpcpocpoaa", sum := "9d1b87e2777a5b794538b422f2be298cb155c68d7f3e20e63edbbe43a8a32d8e", func := "loop.example/g01161/laws.FnExactFreeReduce", spec := "fnExactFreeReduce", apart := false, narrowed := true }
def FnExactFreeReduceUptoSaid : Prop := fnExactFreeReduceUptoRow.holds Try.pinned (OpenSpec.upto fnExactFreeReduceSpec)

/-- 'laws.FnExactSumsOfWord', WHERE WHAT IT READS IS OF BULK AT MOST 1048576: true; the input reads as it did. -/
def fnExactSumsOfWordUptoRow : OpenClaim := { program := "ytgmjchpcpocpoaa", sum := "9d1b87e2777a5b794538b422f2be298cb155c68d7f3e20e63edbbe43a8a32d8e", func := "loop.example/g01161/laws.FnExactSumsOfWord", spec := "fnExactSumsOfWord", apart := false, narrowed := true }
def FnExactSumsOfWordUptoSaid : Prop := fnExactSumsOfWordUptoRow.holds Try.pinned (OpenSpec.upto fnExactSumsOfWordSpec)

/-- 'laws.FnExactShiftWord', WHERE WHAT IT READS IS OF BULK AT MOST 1048576: true; the input reads as it did. -/
def fnExactShiftWordUptoRow : OpenClaim := { program := "ytgmjchpcpocpoaa", sum := "9d1b87e2777a5b794538b422f2be298cb155c68d7f3e20e63edbbe43a8a32d8e", func := "loop.example/g01161/laws.FnExactShiftWord", spec := "fnExactShiftWord", apart := false, narrowed := true }
def FnExactShiftWordUptoSaid : Prop := fnExactShiftWordUptoRow.holds Try.pinned (OpenSpec.upto fnExactShiftWordSpec)

/-- 'laws.FnExactIsNormal', WHERE WHAT IT READS IS OF BULK AT MOST 1048576: true; the input reads as it did. -/
def fnExactIsNormalUptoRow : OpenClaim := { program := "ytgmjchpcpocpoaa", sum := "9d1b87e2777a5b794538b422f2be298cb155c68d7f3e20e63edbbe43a8a32d8e", func := "loop.example/g01161/laws.FnExactIsNormal", spec := "fnExactIsNormal", unfollowed := true, recurses := true, apart := false, narrowed := true }
def FnExactIsNormalUptoSaid : Prop := fnExactIsNormalUptoRow.holds Try.pinned (OpenSpec.upto fnExactIsNormalSpec)

/-- 'laws.FnExactRuleStep', WHERE WHAT IT READS IS OF BULK AT MOST 1048576: true; the input reads as it did. -/
def fnExactRuleStepUptoRow : OpenClaim := { program := "ytgmjchpcpocpoaa", sum := "9d1b87e2777a5b794538b422f2be298cb155c68d7f3e20e63edbbe43a8a32d8e", func := "loop.example/g01161/laws.FnExactRuleStep", spec := "fnExactRuleStep", unfollowed := true, recurses := true, apart := false, narrowed := true }
def FnExactRuleStepUptoSaid : Prop := fnExactRuleStepUptoRow.holds Try.pinned (OpenSpec.upto fnExactRuleStepSpec)

/-- 'laws.FnExactSortedWord', WHERE WHAT IT READS IS OF BULK AT MOST 1048576: true; the input reads as it did. -/
def fnExactSortedWordUptoRow : OpenClaim := { program := "ytgmjchpcpocpoaa", sum := "9d1b87e2777a5b794538b422f2be298cb155c68d7f3e20e63edbbe43a8a32d8e", func := "loop.example/g01161/laws.FnExactSortedWord", spec := "fnExactSortedWord", unfollowed := true, recurses := true, apart := false, narrowed := true }
def FnExactSortedWordUptoSaid : Prop := fnExactSortedWordUptoRow.holds Try.pinned (OpenSpec.upto fnExactSortedWordSpec)

/-- 'laws.FnExactRuleSteps', WHERE WHAT IT READS IS OF BULK AT MOST 1048576: true; the input reads as it did. -/
def fnExactRuleStepsUptoRow : OpenClaim := { program := "ytgmjchpcpocpoaa", sum := "9d1b87e2777a5b794538b422f2be298cb155c68d7f3e20e63edbbe43a8a32d8e", func := "loop.example/g01161/laws.FnExactRuleSteps", spec := "fnExactRuleSteps", unfollowed := true, recurses := true, apart := false, narrowed := true }
def FnExactRuleStepsUptoSaid : Prop := fnExactRuleStepsUptoRow.holds Try.pinned (OpenSpec.upto fnExactRuleStepsSpec)

/-- 'laws.FnExactDropStep', WHERE WHAT IT READS IS OF BULK AT MOST 1048576: true; the input reads as it did. -/
def fnExactDropStepUptoRow : OpenClaim := { program := "ytgmjchpcpocpoaa", sum := "9d1b87e2777a5b794538b422f2be298cb155c68d7f3e20e63edbbe43a8a32d8e", func := "loop.example/g01161/laws.FnExactDropStep", spec := "fnExactDropStep", unfollowed := true, recurses := true, apart := false, narrowed := true }
def FnExactDropStepUptoSaid : Prop := fnExactDropStepUptoRow.holds Try.pinned (OpenSpec.upto fnExactDropStepSpec)

/-- 'laws.FnExactNormalByRules', WHERE WHAT IT READS IS OF BULK AT MOST 1048576: true; the input reads as it did. -/
def fnExactNormalByRulesUptoRow : OpenClaim := { program := "ytgmjchpcpocpoaa", sum := "9d1b87e2777a5b794538b422f2be298cb155c68d7f3e20e63edbbe43a8a32d8e", func := "loop.example/g01161/laws.FnExactNormalByRules", spec := "fnExactNormalByRules", unfollowed := true, recurses := true, apart := false, narrowed := true }
def FnExactNormalByRulesUptoSaid : Prop := fnExactNormalByRulesUptoRow.holds Try.pinned (OpenSpec.upto fnExactNormalByRulesSpec)

end Rows
end Go.Proofs.Ytgmjchpcpocpoaa
