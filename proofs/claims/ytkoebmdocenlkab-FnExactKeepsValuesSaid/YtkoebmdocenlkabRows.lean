/-
  No cell of these rows narrows 'for every input' (looked for: loops, veiled, ifaces, maps, wideKeys, modest, calm, conditions, laid).
  DERIVED. THE GIVEN ROWS OF THIS SEAT. 7 by the template 'for every input the law returns true; each argument reads behind the call as it read before'; 0 by the template 'total and deterministic' (their statements: YtkoebmdocenlkabTotals.lean).
  GIVEN WITH THE SEED: the statements are not yours to turn. If you find one false, say at which input.
  Laid BY PROGRAM, IN A SANDBOX (cutbox-rows.mjs): the forced cells as the released guide's own fill.sh prints them over the translation 92aadc71407d33c9… (all of the seat's roots in one cut). By AI agents, Wed Nov 11 2026. No macro, syntax, notation, axiom, sorry.
-/
import Derived.Test.YtkoebmdocenlkabChecked
import GoSem.Claim
import GoSem.ClaimJoined
import GoSem.ClaimMapViews
import Derived.JoinedTies
import Derived.KernelRfl
namespace Go.Proofs.Ytkoebmdocenlkab
/- THE CELL 'sum', in the pinned program and in every row, IS THE sha256 OF THE DUMP (.gsa) THAT YtkoebmdocenlkabProg.lean LOADS. Nothing in Lean hashes anything: it is a label: what it is worth is what the hold of that sum in a sandbox is worth. -/
noncomputable def Try.pinned : Pinned := { name := "ytkoebmdocenlkab", sum := "92aadc71407d33c9724982f7cc793b10656775739c57b13ac0984e351e7d0dd2", checked := Try.checked }
namespace Rows
def none {H : Type} : Left H := { results := [], args := [] }

/-- 'laws.FnExactRotationDistance': WHATEVER THE INPUT: true; the input reads as it did. -/
def fnExactRotationDistanceSpec : ChangeSpec := { name := "fnExactRotationDistance", fn := fun _ => fun
  | [d1, d2] => { results := [.lit (.bool true)], args := [d1, d2] }
  | _ => none }
def fnExactRotationDistanceRow : OpenClaim := { program := "ytkoebmdocenlkab", sum := "92aadc71407d33c9724982f7cc793b10656775739c57b13ac0984e351e7d0dd2", func := "loop.example/g01161/laws.FnExactRotationDistance", spec := "fnExactRotationDistance", inPlace := ["internal/bytealg.CountString", "internal/bytealg.IndexByteString", "internal/bytealg.IndexString"], unfollowed := true, recurses := true, named := ["internal/bytealg.MaxLen"], apart := false }
def FnExactRotationDistanceSaid : Prop := fnExactRotationDistanceRow.holds Try.pinned (OpenSpec.ofChange fnExactRotationDistanceSpec)

/-- ITS FALSE NEIGHBOUR: 'it returns false'. Refute it at one input. -/
def fnExactRotationDistanceWrong : ChangeSpec := { name := "fnExactRotationDistance", fn := fun _ => fun
  | [d1, d2] => { results := [.lit (.bool false)], args := [d1, d2] }
  | _ => none }
def FnExactRotationDistanceWrongFalsely : Prop := fnExactRotationDistanceRow.holds Try.pinned (OpenSpec.ofChange fnExactRotationDistanceWrong)

/-- 'laws.FnExactKeepsValues': WHATEVER THE INPUT: true; the input reads as it did. -/
def fnExactKeepsValuesSpec : ChangeSpec := { name := "fnExactKeepsValues", fn := fun _ => fun
  | [d1, d2] => { results := [.lit (.bool true)], args := [d1, d2] }
  | _ => none }
def fnExactKeepsValuesRow : OpenClaim := { program := "ytkoebmdocenlkab", sum := "92aadc71407d33c9724982f7cc793b10656775739c57b13ac0984e351e7d0dd2", func := "loop.example/g01161/laws.FnExactKeepsValues", spec := "fnExactKeepsValues", inPlace := ["internal/bytealg.CountString", "internal/bytealg.IndexByteString", "internal/bytealg.IndexString"], recurses := true, named := ["internal/bytealg.MaxLen"], apart := false }
def FnExactKeepsValuesSaid : Prop := fnExactKeepsValuesRow.holds Try.pinned (OpenSpec.ofChange fnExactKeepsValuesSpec)

/-- ITS FALSE NEIGHBOUR: 'it returns false'. Refute it at one input. -/
def fnExactKeepsValuesWrong : ChangeSpec := { name := "fnExactKeepsValues", fn := fun _ => fun
  | [d1, d2] => { results := [.lit (.bool false)], args := [d1, d2] }
  | _ => none }
def FnExactKeepsValuesWrongFalsely : Prop := fnExactKeepsValuesRow.holds Try.pinned (OpenSpec.ofChange fnExactKeepsValuesWrong)

/-- 'laws.FnExactPairText': WHATEVER THE INPUT: true; the input reads as it did. -/
def fnExactPairTextSpec : ChangeSpec := { name := "fnExactPairText", fn := fun _ => fun
  | [d] => { results := [.lit (.bool true)], args := [d] }
  | _ => none }
def fnExactPairTextRow : OpenClaim := { program := "ytkoebmdocenlkab", sum := "92aadc71407d33c9724982f7cc793b10656775739c57b13ac0984e351e7d0dd2", func := "loop.example/g01161/laws.FnExactPairText", spec := "fnExactPairText", inPlace := ["internal/bytealg.CountString", "internal/bytealg.IndexByteString", "internal/bytealg.IndexString"], recurses := true, named := ["internal/bytealg.MaxLen"], apart := false }
def FnExactPairTextSaid : Prop := fnExactPairTextRow.holds Try.pinned (OpenSpec.ofChange fnExactPairTextSpec)

/-- ITS FALSE NEIGHBOUR: 'it returns false'. Refute it at one input. -/
def fnExactPairTextWrong : ChangeSpec := { name := "fnExactPairText", fn := fun _ => fun
  | [d] => { results := [.lit (.bool false)], args := [d] }
  | _ => none }
def FnExactPairTextWrongFalsely : Prop := fnExactPairTextRow.holds Try.pinned (OpenSpec.ofChange fnExactPairTextWrong)

/-- 'laws.FnExactAreApart': WHATEVER THE INPUT: true; the input reads as it did. -/
def fnExactAreApartSpec : ChangeSpec := { name := "fnExactAreApart", fn := fun _ => fun
  | [d1, d2] => { results := [.lit (.bool true)], args := [d1, d2] }
  | _ => none }
def fnExactAreApartRow : OpenClaim := { program := "ytkoebmdocenlkab", sum := "92aadc71407d33c9724982f7cc793b10656775739c57b13ac0984e351e7d0dd2", func := "loop.example/g01161/laws.FnExactAreApart", spec := "fnExactAreApart", inPlace := ["internal/bytealg.CountString", "internal/bytealg.IndexByteString", "internal/bytealg.IndexString"], recurses := true, named := ["internal/bytealg.MaxLen"], apart := false }
def FnExactAreApartSaid : Prop := fnExactAreApartRow.holds Try.pinned (OpenSpec.ofChange fnExactAreApartSpec)

/-- ITS FALSE NEIGHBOUR: 'it returns false'. Refute it at one input. -/
def fnExactAreApartWrong : ChangeSpec := { name := "fnExactAreApart", fn := fun _ => fun
  | [d1, d2] => { results := [.lit (.bool false)], args := [d1, d2] }
  | _ => none }
def FnExactAreApartWrongFalsely : Prop := fnExactAreApartRow.holds Try.pinned (OpenSpec.ofChange fnExactAreApartWrong)

/-- 'laws.FnExactFixedIntervals': WHATEVER THE INPUT: true; the input reads as it did. -/
def fnExactFixedIntervalsSpec : ChangeSpec := { name := "fnExactFixedIntervals", fn := fun _ => fun
  | [d] => { results := [.lit (.bool true)], args := [d] }
  | _ => none }
def fnExactFixedIntervalsRow : OpenClaim := { program := "ytkoebmdocenlkab", sum := "92aadc71407d33c9724982f7cc793b10656775739c57b13ac0984e351e7d0dd2", func := "loop.example/g01161/laws.FnExactFixedIntervals", spec := "fnExactFixedIntervals", inPlace := ["internal/bytealg.CountString", "internal/bytealg.IndexByteString", "internal/bytealg.IndexString"], recurses := true, named := ["internal/bytealg.MaxLen"], apart := false }
def FnExactFixedIntervalsSaid : Prop := fnExactFixedIntervalsRow.holds Try.pinned (OpenSpec.ofChange fnExactFixedIntervalsSpec)

/-- ITS FALSE NEIGHBOUR: 'it returns false'. Refute it at one input. -/
def fnExactFixedIntervalsWrong : ChangeSpec := { name := "fnExactFixedIntervals", fn := fun _ => fun
  | [d] => { results := [.lit (.bool false)], args := [d] }
  | _ => none }
def FnExactFixedIntervalsWrongFalsely : Prop := fnExactFixedIntervalsRow.holds Try.pinned (OpenSpec.ofChange fnExactFixedIntervalsWrong)

/-- 'laws.FnExactMovedIntervals': WHATEVER THE INPUT: true; the input reads as it did. -/
def fnExactMovedIntervalsSpec : ChangeSpec := { name := "fnExactMovedIntervals", fn := fun _ => fun
  | [d] => { results := [.lit (.bool true)], args := [d] }
  | _ => none }
def fnExactMovedIntervalsRow : OpenClaim := { program := "ytkoebmdocenlkab", sum := "92aadc71407d33c9724982f7cc793b10656775739c57b13ac0984e351e7d0dd2", func := "loop.example/g01161/laws.FnExactMovedIntervals", spec := "fnExactMovedIntervals", inPlace := ["internal/bytealg.CountString", "internal/bytealg.IndexByteString", "internal/bytealg.IndexString"], recurses := true, named := ["internal/bytealg.MaxLen"], apart := false }
def FnExactMovedIntervalsSaid : Prop := fnExactMovedIntervalsRow.holds Try.pinned (OpenSpec.ofChange fnExactMovedIntervalsSpec)

/-- ITS FALSE NEIGHBOUR: 'it returns false'. Refute it at one input. -/
def fnExactMovedIntervalsWrong : ChangeSpec := { name := "fnExactMovedIntervals", fn := fun _ => fun
  | [d] => { results := [.lit (.bool false)], args := [d] }
  | _ => none }
def FnExactMovedIntervalsWrongFalsely : Prop := fnExactMovedIntervalsRow.holds Try.pinned (OpenSpec.ofChange fnExactMovedIntervalsWrong)

/-- 'laws.FnExactDirectionsOf': WHATEVER THE INPUT: true; the input reads as it did. -/
def fnExactDirectionsOfSpec : ChangeSpec := { name := "fnExactDirectionsOf", fn := fun _ => fun
  | [d] => { results := [.lit (.bool true)], args := [d] }
  | _ => none }
def fnExactDirectionsOfRow : OpenClaim := { program := "ytkoebmdocenlkab", sum := "92aadc71407d33c9724982f7cc793b10656775739c57b13ac0984e351e7d0dd2", func := "loop.example/g01161/laws.FnExactDirectionsOf", spec := "fnExactDirectionsOf", inPlace := ["internal/bytealg.CountString", "internal/bytealg.IndexByteString", "internal/bytealg.IndexString"], unfollowed := true, recurses := true, named := ["internal/bytealg.MaxLen"], apart := false }
def FnExactDirectionsOfSaid : Prop := fnExactDirectionsOfRow.holds Try.pinned (OpenSpec.ofChange fnExactDirectionsOfSpec)

/-- ITS FALSE NEIGHBOUR: 'it returns false'. Refute it at one input. -/
def fnExactDirectionsOfWrong : ChangeSpec := { name := "fnExactDirectionsOf", fn := fun _ => fun
  | [d] => { results := [.lit (.bool false)], args := [d] }
  | _ => none }
def FnExactDirectionsOfWrongFalsely : Prop := fnExactDirectionsOfRow.holds Try.pinned (OpenSpec.ofChange fnExactDirectionsOfWrong)

/- THE SECOND FORM. 'bulk': how many values and letters a reading holds, each counted each time it is reached (what is shared counts as often as it is met; a slice's spare places count too). A statement '..UptoSaid' is the law's where the arguments, and the package variables that the reading takes, are together of bulk at most 1048576: NARROWER than '..Said'. Prove '..Said' where nothing that the law and all that it calls make is longer than what came in: it says more and counts as full. Else prove '..UptoSaid'. A law counts once. -/
mutual
def uptoBulk {H : Type} : DataW H → Nat
  | .lit (.string bytes) => bytes.length + 1
  | .lit _ => 1
  | .nil => 1
  | .ptr d => uptoBulk d + 1
  | .slice elems spare => uptoBulkAll elems + uptoBulkAll spare + 1
  | .agg parts => uptoBulkAll parts + 1
  | .iface _ d => uptoBulk d + 1
  | .map entries => uptoBulkEntries entries + 1
  | .held _ => 1
def uptoBulkAll {H : Type} : List (DataW H) → Nat
  | [] => 0
  | d :: r => uptoBulk d + uptoBulkAll r
def uptoBulkEntries {H : Type} : List (Lit × DataW H) → Nat
  | [] => 0
  | x :: r => uptoBulkEntry x + uptoBulkEntries r
def uptoBulkEntry {H : Type} : Lit × DataW H → Nat
  | (.string bytes, d) => bytes.length + uptoBulk d + 1
  | (_, d) => uptoBulk d + 1
 end
def uptoSmall : (H : Type) → List (DataW H) → Bool := fun _ ds => decide (uptoBulkAll ds ≤ 1048576)
def OpenSpec.upto (s : _root_.Go.ChangeSpec) : _root_.Go.OpenSpec := { _root_.Go.OpenSpec.ofChange s with cond := some uptoSmall }

/-- 'laws.FnExactRotationDistance', WHERE WHAT IT READS IS OF BULK AT MOST 1048576: true; the input reads as it did. -/
def fnExactRotationDistanceUptoRow : OpenClaim := { program := "ytkoebmdocenlkab", sum := "92aadc71407d33c9724982f7cc793b10656775739c57b13ac0984e351e7d0dd2", func := "loop.example/g01161/laws.FnExactRotationDistance", spec := "fnExactRotationDistance", inPlace := ["internal/bytealg.CountString", "internal/bytealg.IndexByteString", "internal/bytealg.IndexString"], unfollowed := true, recurses := true, named := ["internal/bytealg.MaxLen"], apart := false, narrowed := true }
def FnExactRotationDistanceUptoSaid : Prop := fnExactRotationDistanceUptoRow.holds Try.pinned (OpenSpec.upto fnExactRotationDistanceSpec)

/-- 'laws.FnExactKeepsValues', WHERE WHAT IT READS IS OF BULK AT MOST 1048576: true; the input reads as it did. -/
def fnExactKeepsValuesUptoRow : OpenClaim := { program := "ytkoebmdocenlkab", sum := "92aadc71407d33c9724982f7cc793b10656775739c57b13ac0984e351e7d0dd2", func := "loop.example/g01161/laws.FnExactKeepsValues", spec := "fnExactKeepsValues", inPlace := ["internal/bytealg.CountString", "internal/bytealg.IndexByteString", "internal/bytealg.IndexString"], recurses := true, named := ["internal/bytealg.MaxLen"], apart := false, narrowed := true }
def FnExactKeepsValuesUptoSaid : Prop := fnExactKeepsValuesUptoRow.holds Try.pinned (OpenSpec.upto fnExactKeepsValuesSpec)

/-- 'laws.FnExactPairText', WHERE WHAT IT READS IS OF BULK AT MOST 1048576: true; the input reads as it did. -/
def fnExactPairTextUptoRow : OpenClaim := { program := "ytkoebmdocenlkab", sum := "92aadc71407d33c9724982f7cc793b10656775739c57b13ac0984e351e7d0dd2", func := "loop.example/g01161/laws.FnExactPairText", spec := "fnExactPairText", inPlace := ["internal/bytealg.CountString", "internal/bytealg.IndexByteString", "internal/bytealg.IndexString"], recurses := true, named := ["internal/bytealg.MaxLen"], apart := false, narrowed := true }
def FnExactPairTextUptoSaid : Prop := fnExactPairTextUptoRow.holds Try.pinned (OpenSpec.upto fnExactPairTextSpec)

/-- 'laws.FnExactAreApart', WHERE WHAT IT READS IS OF BULK AT MOST 1048576: true; the input reads as it did. -/
def fnExactAreApartUptoRow : OpenClaim := { program := "ytkoebmdocenlkab", sum := "92aadc71407d33c9724982f7cc793b10656775739c57b13ac0984e351e7d0dd2", func := "loop.example/g01161/laws.FnExactAreApart", spec := "fnExactAreApart", inPlace := ["internal/bytealg.CountString", "internal/bytealg.IndexByteString", "internal/bytealg.IndexString"], recurses := true, named := ["internal/bytealg.MaxLen"], apart := false, narrowed := true }
def FnExactAreApartUptoSaid : Prop := fnExactAreApartUptoRow.holds Try.pinned (OpenSpec.upto fnExactAreApartSpec)

/-- 'laws.FnExactFixedIntervals', WHERE WHAT IT READS IS OF BULK AT MOST 1048576: true; the input reads as it did. -/
def fnExactFixedIntervalsUptoRow : OpenClaim := { program := "ytkoebmdocenlkab", sum := "92aadc71407d33c9724982f7cc793b10656775739c57b13ac0984e351e7d0dd2", func := "loop.example/g01161/laws.FnExactFixedIntervals", spec := "fnExactFixedIntervals", inPlace := ["internal/bytealg.CountString", "internal/bytealg.IndexByteString", "internal/bytealg.IndexString"], recurses := true, named := ["internal/bytealg.MaxLen"], apart := false, narrowed := true }
def FnExactFixedIntervalsUptoSaid : Prop := fnExactFixedIntervalsUptoRow.holds Try.pinned (OpenSpec.upto fnExactFixedIntervalsSpec)

/-- 'laws.FnExactMovedIntervals', WHERE WHAT IT READS IS OF BULK AT MOST 1048576: true; the input reads as it did. -/
def fnExactMovedIntervalsUptoRow : OpenClaim := { program := "ytkoebmdocenlkab", sum := "92aadc71407d33c9724982f7cc793b10656775739c57b13ac0984e351e7d0dd2", func := "loop.example/g01161/laws.FnExactMovedIntervals", spec := "fnExactMovedIntervals", inPlace := ["internal/bytealg.CountString", "internal/bytealg.IndexByteString", "internal/bytealg.IndexString"], recurses := true, named := ["internal/bytealg.MaxLen"], apart := false, narrowed := true }
def FnExactMovedIntervalsUptoSaid : Prop := fnExactMovedIntervalsUptoRow.holds Try.pinned (OpenSpec.upto fnExactMovedIntervalsSpec)

/-- 'laws.FnExactDirectionsOf', WHERE WHAT IT READS IS OF BULK AT MOST 1048576: true; the input reads as it did. -/
def fnExactDirectionsOfUptoRow : OpenClaim := { program := "ytkoebmdocenlkab", sum := "92aadc71407d33c9724982f7cc793b10656775739c57b13ac0984e351e7d0dd2", func := "loop.example/g01161/laws.FnExactDirectionsOf", spec := "fnExactDirectionsOf", inPlace := ["internal/bytealg.CountString", "internal/bytealg.IndexByteString", "internal/bytealg.IndexString"], unfollowed := true, recurses := true, named := ["internal/bytealg.MaxLen"], apart := false, narrowed := true }
def FnExactDirectionsOfUptoSaid : Prop := fnExactDirectionsOfUptoRow.holds Try.pinned (OpenSpec.upto fnExactDirectionsOfSpec)

end Rows
end Go.Proofs.Ytkoebmdocenlkab
