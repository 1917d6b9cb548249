/-
  No cell of these rows narrows 'for every input' (looked for: loops, veiled, ifaces, maps, wideKeys, modest, calm, conditions, laid).
  DERIVED. THE GIVEN ROWS OF THIS SEAT. 11 by the template 'for every input the law returns true; each argument reads behind the call as it read before'; 0 by the template 'total and deterministic' (their statements: YtkoebmdocenlkaaTotals.lean).
  GIVEN WITH THE SEED: the statements are not yours to turn. If you find one false, say at which input.
  Laid BY PROGRAM, IN A SANDBOX (cutbox-rows.mjs): the forced cells as the released guide's own fill.sh prints them over the translation e5796722d399ab5b… (all of the seat's roots in one cut). By AI agents, Wed Nov 11 2026. No macro, syntax, notation, axiom, sorry.
-/
import Derived.Test.YtkoebmdocenlkaaChecked
import GoSem.Claim
import GoSem.ClaimJoined
import GoSem.ClaimMapViews
import Derived.JoinedTies
import Derived.KernelRfl
namespace Go.Proofs.Ytkoebmdocenlkaa
/- THE CELL 'sum', in the pinned program and in every row, IS THE sha256 OF THE DUMP (.gsa) THAT YtkoebmdocenlkaaProg.lean LOADS. Nothing in Lean hashes anything: it is a label: what it is worth is what the hold of that sum in a sandbox is worth. -/
noncomputable def Try.pinned : Pinned := { name := "ytkoebmdocenlkaa", sum := "e5796722d399ab5b47fa681a846381a0ec814736d151b1cfa6d0cef05792565c", checked := Try.checked }
namespace Rows
def none {H : Type} : Left H := { results := [], args := [] }

/-- 'laws.FnExactRotateAt': WHATEVER THE INPUT: true; the input reads as it did. -/
def fnExactRotateAtSpec : ChangeSpec := { name := "fnExactRotateAt", fn := fun _ => fun
  | [d1, d2] => { results := [.lit (.bool true)], args := [d1, d2] }
  | _ => none }
def fnExactRotateAtRow : OpenClaim := { program := "ytkoebmdocenlkaa", sum := "e5796722d399ab5b47fa681a846381a0ec814736d151b1cfa6d0cef05792565c", func := "loop.example/g01161/laws.FnExactRotateAt", spec := "fnExactRotateAt", unfollowed := true, recurses := true, apart := false }
def FnExactRotateAtSaid : Prop := fnExactRotateAtRow.holds Try.pinned (OpenSpec.ofChange fnExactRotateAtSpec)

/-- ITS FALSE NEIGHBOUR: 'it returns false'. Refute it at one input. -/
def fnExactRotateAtWrong : ChangeSpec := { name := "fnExactRotateAt", fn := fun _ => fun
  | [d1, d2] => { results := [.lit (.bool false)], args := [d1, d2] }
  | _ => none }
def FnExactRotateAtWrongFalsely : Prop := fnExactRotateAtRow.holds Try.pinned (OpenSpec.ofChange fnExactRotateAtWrong)

/-- 'laws.FnExactRotateBack': WHATEVER THE INPUT: true; the input reads as it did. -/
def fnExactRotateBackSpec : ChangeSpec := { name := "fnExactRotateBack", fn := fun _ => fun
  | [d1, d2] => { results := [.lit (.bool true)], args := [d1, d2] }
  | _ => none }
def fnExactRotateBackRow : OpenClaim := { program := "ytkoebmdocenlkaa", sum := "e5796722d399ab5b47fa681a846381a0ec814736d151b1cfa6d0cef05792565c", func := "loop.example/g01161/laws.FnExactRotateBack", spec := "fnExactRotateBack", unfollowed := true, recurses := true, apart := false }
def FnExactRotateBackSaid : Prop := fnExactRotateBackRow.holds Try.pinned (OpenSpec.ofChange fnExactRotateBackSpec)

/-- ITS FALSE NEIGHBOUR: 'it returns false'. Refute it at one input. -/
def fnExactRotateBackWrong : ChangeSpec := { name := "fnExactRotateBack", fn := fun _ => fun
  | [d1, d2] => { results := [.lit (.bool false)], args := [d1, d2] }
  | _ => none }
def FnExactRotateBackWrongFalsely : Prop := fnExactRotateBackRow.holds Try.pinned (OpenSpec.ofChange fnExactRotateBackWrong)

/-- 'laws.FnExactPlacesToRotate': WHATEVER THE INPUT: true; the input reads as it did. -/
def fnExactPlacesToRotateSpec : ChangeSpec := { name := "fnExactPlacesToRotate", fn := fun _ => fun
  | [d] => { results := [.lit (.bool true)], args := [d] }
  | _ => none }
def fnExactPlacesToRotateRow : OpenClaim := { program := "ytkoebmdocenlkaa", sum := "e5796722d399ab5b47fa681a846381a0ec814736d151b1cfa6d0cef05792565c", func := "loop.example/g01161/laws.FnExactPlacesToRotate", spec := "fnExactPlacesToRotate", unfollowed := true, recurses := true, apart := false }
def FnExactPlacesToRotateSaid : Prop := fnExactPlacesToRotateRow.holds Try.pinned (OpenSpec.ofChange fnExactPlacesToRotateSpec)

/-- ITS FALSE NEIGHBOUR: 'it returns false'. Refute it at one input. -/
def fnExactPlacesToRotateWrong : ChangeSpec := { name := "fnExactPlacesToRotate", fn := fun _ => fun
  | [d] => { results := [.lit (.bool false)], args := [d] }
  | _ => none }
def FnExactPlacesToRotateWrongFalsely : Prop := fnExactPlacesToRotateRow.holds Try.pinned (OpenSpec.ofChange fnExactPlacesToRotateWrong)

/-- 'laws.FnExactCountRotations': WHATEVER THE INPUT: true; the input reads as it did. -/
def fnExactCountRotationsSpec : ChangeSpec := { name := "fnExactCountRotations", fn := fun _ => fun
  | [d] => { results := [.lit (.bool true)], args := [d] }
  | _ => none }
def fnExactCountRotationsRow : OpenClaim := { program := "ytkoebmdocenlkaa", sum := "e5796722d399ab5b47fa681a846381a0ec814736d151b1cfa6d0cef05792565c", func := "loop.example/g01161/laws.FnExactCountRotations", spec := "fnExactCountRotations", inPlace := ["internal/bytealg.CountString", "internal/bytealg.IndexByteString", "internal/bytealg.IndexString"], recurses := true, named := ["internal/bytealg.MaxLen"], apart := false }
def FnExactCountRotationsSaid : Prop := fnExactCountRotationsRow.holds Try.pinned (OpenSpec.ofChange fnExactCountRotationsSpec)

/-- ITS FALSE NEIGHBOUR: 'it returns false'. Refute it at one input. -/
def fnExactCountRotationsWrong : ChangeSpec := { name := "fnExactCountRotations", fn := fun _ => fun
  | [d] => { results := [.lit (.bool false)], args := [d] }
  | _ => none }
def FnExactCountRotationsWrongFalsely : Prop := fnExactCountRotationsRow.holds Try.pinned (OpenSpec.ofChange fnExactCountRotationsWrong)

/-- 'laws.FnExactNeighboursOf': WHATEVER THE INPUT: true; the input reads as it did. -/
def fnExactNeighboursOfSpec : ChangeSpec := { name := "fnExactNeighboursOf", fn := fun _ => fun
  | [d] => { results := [.lit (.bool true)], args := [d] }
  | _ => none }
def fnExactNeighboursOfRow : OpenClaim := { program := "ytkoebmdocenlkaa", sum := "e5796722d399ab5b47fa681a846381a0ec814736d151b1cfa6d0cef05792565c", func := "loop.example/g01161/laws.FnExactNeighboursOf", spec := "fnExactNeighboursOf", unfollowed := true, recurses := true, apart := false }
def FnExactNeighboursOfSaid : Prop := fnExactNeighboursOfRow.holds Try.pinned (OpenSpec.ofChange fnExactNeighboursOfSpec)

/-- ITS FALSE NEIGHBOUR: 'it returns false'. Refute it at one input. -/
def fnExactNeighboursOfWrong : ChangeSpec := { name := "fnExactNeighboursOf", fn := fun _ => fun
  | [d] => { results := [.lit (.bool false)], args := [d] }
  | _ => none }
def FnExactNeighboursOfWrongFalsely : Prop := fnExactNeighboursOfRow.holds Try.pinned (OpenSpec.ofChange fnExactNeighboursOfWrong)

/-- 'laws.FnExactRotationPair': WHATEVER THE INPUT: true; the input reads as it did. -/
def fnExactRotationPairSpec : ChangeSpec := { name := "fnExactRotationPair", fn := fun _ => fun
  | [d1, d2] => { results := [.lit (.bool true)], args := [d1, d2] }
  | _ => none }
def fnExactRotationPairRow : OpenClaim := { program := "ytkoebmdocenlkaa", sum := "e5796722d399ab5b47fa681a846381a0ec814736d151b1cfa6d0cef05792565c", func := "loop.example/g01161/laws.FnExactRotationPair", spec := "fnExactRotationPair", inPlace := ["internal/bytealg.CountString", "internal/bytealg.IndexByteString", "internal/bytealg.IndexString"], unfollowed := true, recurses := true, named := ["internal/bytealg.MaxLen"], apart := false }
def FnExactRotationPairSaid : Prop := fnExactRotationPairRow.holds Try.pinned (OpenSpec.ofChange fnExactRotationPairSpec)

/-- ITS FALSE NEIGHBOUR: 'it returns false'. Refute it at one input. -/
def fnExactRotationPairWrong : ChangeSpec := { name := "fnExactRotationPair", fn := fun _ => fun
  | [d1, d2] => { results := [.lit (.bool false)], args := [d1, d2] }
  | _ => none }
def FnExactRotationPairWrongFalsely : Prop := fnExactRotationPairRow.holds Try.pinned (OpenSpec.ofChange fnExactRotationPairWrong)

/-- 'laws.FnExactChainToRight': WHATEVER THE INPUT: true; the input reads as it did. -/
def fnExactChainToRightSpec : ChangeSpec := { name := "fnExactChainToRight", fn := fun _ => fun
  | [d] => { results := [.lit (.bool true)], args := [d] }
  | _ => none }
def fnExactChainToRightRow : OpenClaim := { program := "ytkoebmdocenlkaa", sum := "e5796722d399ab5b47fa681a846381a0ec814736d151b1cfa6d0cef05792565c", func := "loop.example/g01161/laws.FnExactChainToRight", spec := "fnExactChainToRight", unfollowed := true, recurses := true, apart := false }
def FnExactChainToRightSaid : Prop := fnExactChainToRightRow.holds Try.pinned (OpenSpec.ofChange fnExactChainToRightSpec)

/-- ITS FALSE NEIGHBOUR: 'it returns false'. Refute it at one input. -/
def fnExactChainToRightWrong : ChangeSpec := { name := "fnExactChainToRight", fn := fun _ => fun
  | [d] => { results := [.lit (.bool false)], args := [d] }
  | _ => none }
def FnExactChainToRightWrongFalsely : Prop := fnExactChainToRightRow.holds Try.pinned (OpenSpec.ofChange fnExactChainToRightWrong)

/-- 'laws.FnExactChainBetween': WHATEVER THE INPUT: true; the input reads as it did. -/
def fnExactChainBetweenSpec : ChangeSpec := { name := "fnExactChainBetween", fn := fun _ => fun
  | [d1, d2] => { results := [.lit (.bool true)], args := [d1, d2] }
  | _ => none }
def fnExactChainBetweenRow : OpenClaim := { program := "ytkoebmdocenlkaa", sum := "e5796722d399ab5b47fa681a846381a0ec814736d151b1cfa6d0cef05792565c", func := "loop.example/g01161/laws.FnExactChainBetween", spec := "fnExactChainBetween", inPlace := ["internal/bytealg.CountString", "internal/bytealg.IndexByteString", "internal/bytealg.IndexString"], unfollowed := true, recurses := true, named := ["internal/bytealg.MaxLen"], apart := false }
def FnExactChainBetweenSaid : Prop := fnExactChainBetweenRow.holds Try.pinned (OpenSpec.ofChange fnExactChainBetweenSpec)

/-- ITS FALSE NEIGHBOUR: 'it returns false'. Refute it at one input. -/
def fnExactChainBetweenWrong : ChangeSpec := { name := "fnExactChainBetween", fn := fun _ => fun
  | [d1, d2] => { results := [.lit (.bool false)], args := [d1, d2] }
  | _ => none }
def FnExactChainBetweenWrongFalsely : Prop := fnExactChainBetweenRow.holds Try.pinned (OpenSpec.ofChange fnExactChainBetweenWrong)

/-- 'laws.FnExactValueOfTree': WHATEVER THE INPUT: true; the input reads as it did. -/
def fnExactValueOfTreeSpec : ChangeSpec := { name := "fnExactValueOfTree", fn := fun _ => fun
  | [d1, d2, d3] => { results := [.lit (.bool true)], args := [d1, d2, d3] }
  | _ => none }
def fnExactValueOfTreeRow : OpenClaim := { program := "ytkoebmdocenlkaa", sum := "e5796722d399ab5b47fa681a846381a0ec814736d151b1cfa6d0cef05792565c", func := "loop.example/g01161/laws.FnExactValueOfTree", spec := "fnExactValueOfTree", inPlace := ["internal/bytealg.CountString", "internal/bytealg.IndexByteString", "internal/bytealg.IndexString"], recurses := true, named := ["internal/bytealg.MaxLen"], apart := false }
def FnExactValueOfTreeSaid : Prop := fnExactValueOfTreeRow.holds Try.pinned (OpenSpec.ofChange fnExactValueOfTreeSpec)

/-- ITS FALSE NEIGHBOUR: 'it returns false'. Refute it at one input. -/
def fnExactValueOfTreeWrong : ChangeSpec := { name := "fnExactValueOfTree", fn := fun _ => fun
  | [d1, d2, d3] => { results := [.lit (.bool false)], args := [d1, d2, d3] }
  | _ => none }
def FnExactValueOfTreeWrongFalsely : Prop := fnExactValueOfTreeRow.holds Try.pinned (OpenSpec.ofChange fnExactValueOfTreeWrong)

/-- 'laws.FnExactFirstBroken': WHATEVER THE INPUT: true; the input reads as it did. -/
def fnExactFirstBrokenSpec : ChangeSpec := { name := "fnExactFirstBroken", fn := fun _ => fun
  | [d] => { results := [.lit (.bool true)], args := [d] }
  | _ => none }
def fnExactFirstBrokenRow : OpenClaim := { program := "ytkoebmdocenlkaa", sum := "e5796722d399ab5b47fa681a846381a0ec814736d151b1cfa6d0cef05792565c", func := "loop.example/g01161/laws.FnExactFirstBroken", spec := "fnExactFirstBroken", inPlace := ["internal/bytealg.CountString", "internal/bytealg.IndexByteString", "internal/bytealg.IndexString"], unfollowed := true, recurses := true, named := ["internal/bytealg.MaxLen"], apart := false }
def FnExactFirstBrokenSaid : Prop := fnExactFirstBrokenRow.holds Try.pinned (OpenSpec.ofChange fnExactFirstBrokenSpec)

/-- ITS FALSE NEIGHBOUR: 'it returns false'. Refute it at one input. -/
def fnExactFirstBrokenWrong : ChangeSpec := { name := "fnExactFirstBroken", fn := fun _ => fun
  | [d] => { results := [.lit (.bool false)], args := [d] }
  | _ => none }
def FnExactFirstBrokenWrongFalsely : Prop := fnExactFirstBrokenRow.holds Try.pinned (OpenSpec.ofChange fnExactFirstBrokenWrong)

/-- 'laws.FnExactIsAssociative': WHATEVER THE INPUT: true; the input reads as it did. -/
def fnExactIsAssociativeSpec : ChangeSpec := { name := "fnExactIsAssociative", fn := fun _ => fun
  | [d] => { results := [.lit (.bool true)], args := [d] }
  | _ => none }
def fnExactIsAssociativeRow : OpenClaim := { program := "ytkoebmdocenlkaa", sum := "e5796722d399ab5b47fa681a846381a0ec814736d151b1cfa6d0cef05792565c", func := "loop.example/g01161/laws.FnExactIsAssociative", spec := "fnExactIsAssociative", inPlace := ["internal/bytealg.CountString", "internal/bytealg.IndexByteString", "internal/bytealg.IndexString"], unfollowed := true, recurses := true, named := ["internal/bytealg.MaxLen"], apart := false }
def FnExactIsAssociativeSaid : Prop := fnExactIsAssociativeRow.holds Try.pinned (OpenSpec.ofChange fnExactIsAssociativeSpec)

/-- ITS FALSE NEIGHBOUR: 'it returns false'. Refute it at one input. -/
def fnExactIsAssociativeWrong : ChangeSpec := { name := "fnExactIsAssociative", fn := fun _ => fun
  | [d] => { results := [.lit (.bool false)], args := [d] }
  | _ => none }
def FnExactIsAssociativeWrongFalsely : Prop := fnExactIsAssociativeRow.holds Try.pinned (OpenSpec.ofChange fnExactIsAssociativeWrong)

/- THE SECOND FORM. 'bulk': how many values and letters a reading holds, each counted each time it is reached (what is shared counts as often as it is met; a slice's spare places count too). A statement '..UptoSaid' is the law's where the arguments, and the package variables that the reading takes, are together of bulk at most 1048576: NARROWER than '..Said'. Prove '..Said' where nothing that the law and all that it calls make is longer than what came in: it says more and counts as full. Else prove '..UptoSaid'. A law counts once. -/
mutual
def uptoBulk {H : Type} : DataW H → Nat
  | .lit (.string bytes) => bytes.length + 1
  | .lit _ => 1
  | .nil => 1
  | .ptr d => uptoBulk d + 1
  | .slice elems spare => uptoBulkAll elems + uptoBulkAll spare + 1
  | .agg parts => uptoBulkAll parts + 1
  | .iface _ d => uptoBulk d + 1
  | .map entries => uptoBulkEntries entries + 1
  | .held _ => 1
def uptoBulkAll {H : Type} : List (DataW H) → Nat
  | [] => 0
  | d :: r => uptoBulk d + uptoBulkAll r
def uptoBulkEntries {H : Type} : List (Lit × DataW H) → Nat
  | [] => 0
  | x :: r => uptoBulkEntry x + uptoBulkEntries r
def uptoBulkEntry {H : Type} : Lit × DataW H → Nat
  | (.string bytes, d) => bytes.length + uptoBulk d + 1
  | (_, d) => uptoBulk d + 1
 end
def uptoSmall : (H : Type) → List (DataW H) → Bool := fun _ ds => decide (uptoBulkAll ds ≤ 1048576)
def OpenSpec.upto (s : _root_.Go.ChangeSpec) : _root_.Go.OpenSpec := { _root_.Go.OpenSpec.ofChange s with cond := some uptoSmall }

/-- 'laws.FnExactRotateAt', WHERE WHAT IT READS IS OF BULK AT MOST 1048576: true; the input reads as it did. -/
def fnExactRotateAtUptoRow : OpenClaim := { program := "ytkoebmdocenlkaa", sum := "e5796722d399ab5b47fa681a846381a0ec814736d151b1cfa6d0cef05792565c", func := "loop.example/g01161/laws.FnExactRotateAt", spec := "fnExactRotateAt", unfollowed := true, recurses := true, apart := false, narrowed := true }
def FnExactRotateAtUptoSaid : Prop := fnExactRotateAtUptoRow.holds Try.pinned (OpenSpec.upto fnExactRotateAtSpec)

/-- 'laws.FnExactRotateBack', WHERE WHAT IT READS IS OF BULK AT MOST 1048576: true; the input reads as it did. -/
def fnExactRotateBackUptoRow : OpenClaim := { program := "ytkoebmdocenlkaa", sum := "e5796722d399ab5b47fa681a846381a0ec814736d151b1cfa6d0cef05792565c", func := "loop.example/g01161/laws.FnExactRotateBack", spec := "fnExactRotateBack", unfollowed := true, recurses := true, apart := false, narrowed := true }
def FnExactRotateBackUptoSaid : Prop := fnExactRotateBackUptoRow.holds Try.pinned (OpenSpec.upto fnExactRotateBackSpec)

/-- 'laws.FnExactPlacesToRotate', WHERE WHAT IT READS IS OF BULK AT MOST 1048576: true; the input reads as it did. -/
def fnExactPlacesToRotateUptoRow : OpenClaim := { program := "ytkoebmdocenlkaa", sum := "e5796722d399ab5b47fa681a846381a0ec814736d151b1cfa6d0cef05792565c", func := "loop.example/g01161/laws.FnExactPlacesToRotate", spec := "fnExactPlacesToRotate", unfollowed := true, recurses := true, apart := false, narrowed := true }
def FnExactPlacesToRotateUptoSaid : Prop := fnExactPlacesToRotateUptoRow.holds Try.pinned (OpenSpec.upto fnExactPlacesToRotateSpec)

/-- 'laws.FnExactCountRotations', WHERE WHAT IT READS IS OF BULK AT MOST 1048576: true; the input reads as it did. -/
def fnExactCountRotationsUptoRow : OpenClaim := { program := "ytkoebmdocenlkaa", sum := "e5796722d399ab5b47fa681a846381a0ec814736d151b1cfa6d0cef05792565c", func := "loop.example/g01161/laws.FnExactCountRotations", spec := "fnExactCountRotations", inPlace := ["internal/bytealg.CountString", "internal/bytealg.IndexByteString", "internal/bytealg.IndexString"], recurses := true, named := ["internal/bytealg.MaxLen"], apart := false, narrowed := true }
def FnExactCountRotationsUptoSaid : Prop := fnExactCountRotationsUptoRow.holds Try.pinned (OpenSpec.upto fnExactCountRotationsSpec)

/-- 'laws.FnExactNeighboursOf', WHERE WHAT IT READS IS OF BULK AT MOST 1048576: true; the input reads as it did. -/
def fnExactNeighboursOfUptoRow : OpenClaim := { program := "ytkoebmdocenlkaa", sum := "e5796722d399ab5b47fa681a846381a0ec814736d151b1cfa6d0cef05792565c", func := "loop.example/g01161/laws.FnExactNeighboursOf", spec := "fnExactNeighboursOf", unfollowed := true, recurses := true, apart := false, narrowed := true }
def FnExactNeighboursOfUptoSaid : Prop := fnExactNeighboursOfUptoRow.holds Try.pinned (OpenSpec.upto fnExactNeighboursOfSpec)

/-- 'laws.FnExactRotationPair', WHERE WHAT IT READS IS OF BULK AT MOST 1048576: true; the input reads as it did. -/
def fnExactRotationPairUptoRow : OpenClaim := { program := "ytkoebmdocenlkaa", sum := "e5796722d399ab5b47fa681a846381a0ec814736d151b1cfa6d0cef05792565c", func := "loop.example/g01161/laws.FnExactRotationPair", spec := "fnExactRotationPair", inPlace := ["internal/bytealg.CountString", "internal/bytealg.IndexByteString", "internal/bytealg.IndexString"], unfollowed := true, recurses := true, named := ["internal/bytealg.MaxLen"], apart := false, narrowed := true }
def FnExactRotationPairUptoSaid : Prop := fnExactRotationPairUptoRow.holds Try.pinned (OpenSpec.upto fnExactRotationPairSpec)

/-- 'laws.FnExactChainToRight', WHERE WHAT IT READS IS OF BULK AT MOST 1048576: true; the input reads as it did. -/
def fnExactChainToRightUptoRow : OpenClaim := { program := "ytkoebmdocenlkaa", sum := "e5796722d399ab5b47fa681a846381a0ec814736d151b1cfa6d0cef05792565c", func := "loop.example/g01161/laws.FnExactChainToRight", spec := "fnExactChainToRight", unfollowed := true, recurses := true, apart := false, narrowed := true }
def FnExactChainToRightUptoSaid : Prop := fnExactChainToRightUptoRow.holds Try.pinned (OpenSpec.upto fnExactChainToRightSpec)

/-- 'laws.FnExactChainBetween', WHERE WHAT IT READS IS OF BULK AT MOST 1048576: true; the input reads as it did. -/
def fnExactChainBetweenUptoRow : OpenClaim := { program := "ytkoebmdocenlkaa", sum := "e5796722d399ab5b47fa681a846381a0ec814736d151b1cfa6d0cef05792565c", func := "loop.example/g01161/laws.FnExactChainBetween", spec := "fnExactChainBetween", inPlace := ["internal/bytealg.CountString", "internal/bytealg.IndexByteString", "internal/bytealg.IndexString"], unfollowed := true, recurses := true, named := ["internal/bytealg.MaxLen"], apart := false, narrowed := true }
def FnExactChainBetweenUptoSaid : Prop := fnExactChainBetweenUptoRow.holds Try.pinned (OpenSpec.upto fnExactChainBetweenSpec)

/-- 'laws.FnExactValueOfTree', WHERE WHAT IT READS IS OF BULK AT MOST 1048576: true; the input reads as it did. -/
def fnExactValueOfTreeUptoRow : OpenClaim := { program := "ytkoebmdocenlkaa", sum := "e5796722d399ab5b47fa681a846381a0ec814736d151b1cfa6d0cef05792565c", func := "loop.example/g01161/laws.FnExactValueOfTree", spec := "fnExactValueOfTree", inPlace := ["internal/bytealg.CountString", "internal/bytealg.IndexByteString", "internal/bytealg.IndexString"], recurses := true, named := ["internal/bytealg.MaxLen"], apart := false, narrowed := true }
def FnExactValueOfTreeUptoSaid : Prop := fnExactValueOfTreeUptoRow.holds Try.pinned (OpenSpec.upto fnExactValueOfTreeSpec)

/-- 'laws.FnExactFirstBroken', WHERE WHAT IT READS IS OF BULK AT MOST 1048576: true; the input reads as it did. -/
def fnExactFirstBrokenUptoRow : OpenClaim := { program := "ytkoebmdocenlkaa", sum := "e5796722d399ab5b47fa681a846381a0ec814736d151b1cfa6d0cef05792565c", func := "loop.example/g01161/laws.FnExactFirstBroken", spec := "fnExactFirstBroken", inPlace := ["internal/bytealg.CountString", "internal/bytealg.IndexByteString", "internal/bytealg.IndexString"], unfollowed := true, recurses := true, named := ["internal/bytealg.MaxLen"], apart := false, narrowed := true }
def FnExactFirstBrokenUptoSaid : Prop := fnExactFirstBrokenUptoRow.holds Try.pinned (OpenSpec.upto fnExactFirstBrokenSpec)

/-- 'laws.FnExactIsAssociative', WHERE WHAT IT READS IS OF BULK AT MOST 1048576: true; the input reads as it did. -/
def fnExactIsAssociativeUptoRow : OpenClaim := { program := "ytkoebmdocenlkaa", sum := "e5796722d399ab5b47fa681a846381a0ec814736d151b1cfa6d0cef05792565c", func := "loop.example/g01161/laws.FnExactIsAssociative", spec := "fnExactIsAssociative", inPlace := ["internal/bytealg.CountString", "internal/bytealg.IndexByteString", "internal/bytealg.IndexString"], unfollowed := true, recurses := true, named := ["internal/bytealg.MaxLen"], apart := false, narrowed := true }
def FnExactIsAssociativeUptoSaid : Prop := fnExactIsAssociativeUptoRow.holds Try.pinned (OpenSpec.upto fnExactIsAssociativeSpec)

end Rows
end Go.Proofs.Ytkoebmdocenlkaa
