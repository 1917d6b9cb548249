/-
  No cell of these rows narrows 'for every input' (looked for: loops, veiled, ifaces, maps, wideKeys, modest, calm, conditions, laid).
  DERIVED. THE GIVEN ROWS OF THIS SEAT. 10 by the template 'for every input the law returns true; each argument reads behind the call as it read before'; 0 by the template 'total and deterministic' (their statements: YtgjdppegkoepfaaTotals.lean).
  GIVEN WITH THE SEED: the statements are not yours to turn. If you find one false, say at which input.
  Laid BY PROGRAM, IN A SANDBOX (cutbox-rows.mjs): the forced cells as the released guide's own fill.sh prints them over the translation 7c546ec0477033cd… (all of the seat's roots in one cut). By AI agents, Wed Nov 11 2026. No macro, syntax, notation, axiom, sorry.
-/
import Derived.Test.YtgjdppegkoepfaaChecked
import GoSem.Claim
import GoSem.ClaimJoined
import GoSem.ClaimMapViews
import Derived.JoinedTies
import Derived.KernelRfl
namespace Go.Proofs.Ytgjdppegkoepfaa
/- THE CELL 'sum', in the pinned program and in every row, IS THE sha256 OF THE DUMP (.gsa) THAT YtgjdppegkoepfaaProg.lean LOADS. Nothing in Lean hashes anything: it is a label: what it is worth is what the hold of that sum in a sandbox is worth. -/
noncomputable def Try.pinned : Pinned := { name := "ytgjdppegkoepfaa", sum := "7c546ec0477033cd64a6694522ba570a45d9e38a60951dbbc2233cc5d3b25a1f", checked := Try.checked }
namespace Rows
def none {H : Type} : Left H := { results := [], args := [] }

/-- 'laws.FnExactEndSlopes': WHATEVER THE INPUT: true; the input reads as it did. -/
def fnExactEndSlopesSpec : ChangeSpec := { name := "fnExactEndSlopes", fn := fun _ => fun
  | [d] => { results := [.lit (.bool true)], args := [d] }
  | _ => none }
def fnExactEndSlopesRow : OpenClaim := { program := "ytgjdppegkoepfaa", sum := "7c546ec0477033cd64a6694522ba570a45d9e38a60951dbbc2233cc5d3b25a1f", func := "loop.example/g01161/laws.FnExactEndSlopes", spec := "fnExactEndSlopes", inPlace := ["internal/bytealg.CountString", "internal/bytealg.IndexByteString", "internal/bytealg.IndexString"], unfollowed := true, recurses := true, named := ["internal/bytealg.MaxLen"], apart := false }
def FnExactEndSlopesSaid : Prop := fnExactEndSlopesRow.holds Try.pinned (OpenSpec.ofChange fnExactEndSlopesSpec)

/-- ITS FALSE NEIGHBOUR: 'it returns false'. Refute it at one input. -/
def fnExactEndSlopesWrong : ChangeSpec := { name := "fnExactEndSlopes", fn := fun _ => fun
  | [d] => { results := [.lit (.bool false)], args := [d] }
  | _ => none }
def FnExactEndSlopesWrongFalsely : Prop := fnExactEndSlopesRow.holds Try.pinned (OpenSpec.ofChange fnExactEndSlopesWrong)

/-- 'laws.FnExactIsInner': WHATEVER THE INPUT: true; the input reads as it did. -/
def fnExactIsInnerSpec : ChangeSpec := { name := "fnExactIsInner", fn := fun _ => fun
  | [d] => { results := [.lit (.bool true)], args := [d] }
  | _ => none }
def fnExactIsInnerRow : OpenClaim := { program := "ytgjdppegkoepfaa", sum := "7c546ec0477033cd64a6694522ba570a45d9e38a60951dbbc2233cc5d3b25a1f", func := "loop.example/g01161/laws.FnExactIsInner", spec := "fnExactIsInner", inPlace := ["internal/bytealg.CountString", "internal/bytealg.IndexByteString", "internal/bytealg.IndexString"], unfollowed := true, recurses := true, named := ["internal/bytealg.MaxLen"], apart := false }
def FnExactIsInnerSaid : Prop := fnExactIsInnerRow.holds Try.pinned (OpenSpec.ofChange fnExactIsInnerSpec)

/-- ITS FALSE NEIGHBOUR: 'it returns false'. Refute it at one input. -/
def fnExactIsInnerWrong : ChangeSpec := { name := "fnExactIsInner", fn := fun _ => fun
  | [d] => { results := [.lit (.bool false)], args := [d] }
  | _ => none }
def FnExactIsInnerWrongFalsely : Prop := fnExactIsInnerRow.holds Try.pinned (OpenSpec.ofChange fnExactIsInnerWrong)

/-- 'laws.FnExactFixedIntervals': WHATEVER THE INPUT: true; the input reads as it did. -/
def fnExactFixedIntervalsSpec : ChangeSpec := { name := "fnExactFixedIntervals", fn := fun _ => fun
  | [d] => { results := [.lit (.bool true)], args := [d] }
  | _ => none }
def fnExactFixedIntervalsRow : OpenClaim := { program := "ytgjdppegkoepfaa", sum := "7c546ec0477033cd64a6694522ba570a45d9e38a60951dbbc2233cc5d3b25a1f", func := "loop.example/g01161/laws.FnExactFixedIntervals", spec := "fnExactFixedIntervals", inPlace := ["internal/bytealg.CountString", "internal/bytealg.IndexByteString", "internal/bytealg.IndexString"], recurses := true, named := ["internal/bytealg.MaxLen"], apart := false }
def FnExactFixedIntervalsSaid : Prop := fnExactFixedIntervalsRow.holds Try.pinned (OpenSpec.ofChange fnExactFixedIntervalsSpec)

/-- ITS FALSE NEIGHBOUR: 'it returns false'. Refute it at one input. -/
def fnExactFixedIntervalsWrong : ChangeSpec := { name := "fnExactFixedIntervals", fn := fun _ => fun
  | [d] => { results := [.lit (.bool false)], args := [d] }
  | _ => none }
def FnExactFixedIntervalsWrongFalsely : Prop := fnExactFixedIntervalsRow.holds Try.pinned (OpenSpec.ofChange fnExactFixedIntervalsWrong)

/-- 'laws.FnExactMovedIntervals': WHATEVER THE INPUT: true; the input reads as it did. -/
def fnExactMovedIntervalsSpec : ChangeSpec := { name := "fnExactMovedIntervals", fn := fun _ => fun
  | [d] => { results := [.lit (.bool true)], args := [d] }
  | _ => none }
def fnExactMovedIntervalsRow : OpenClaim := { program := "ytgjdppegkoepfaa", sum := "7c546ec0477033cd64a6694522ba570a45d9e38a60951dbbc2233cc5d3b25a1f", func := "loop.example/g01161/laws.FnExactMovedIntervals", spec := "fnExactMovedIntervals", inPlace := ["internal/bytealg.CountString", "internal/bytealg.IndexByteString", "internal/bytealg.IndexString"], recurses := true, named := ["internal/bytealg.MaxLen"], apart := false }
def FnExactMovedIntervalsSaid : Prop := fnExactMovedIntervalsRow.holds Try.pinned (OpenSpec.ofChange fnExactMovedIntervalsSpec)

/-- ITS FALSE NEIGHBOUR: 'it returns false'. Refute it at one input. -/
def fnExactMovedIntervalsWrong : ChangeSpec := { name := "fnExactMovedIntervals", fn := fun _ => fun
  | [d] => { results := [.lit (.bool false)], args := [d] }
  | _ => none }
def FnExactMovedIntervalsWrongFalsely : Prop := fnExactMovedIntervalsRow.holds Try.pinned (OpenSpec.ofChange fnExactMovedIntervalsWrong)

/-- 'laws.FnExactDirectionsOf': WHATEVER THE INPUT: true; the input reads as it did. -/
def fnExactDirectionsOfSpec : ChangeSpec := { name := "fnExactDirectionsOf", fn := fun _ => fun
  | [d] => { results := [.lit (.bool true)], args := [d] }
  | _ => none }
def fnExactDirectionsOfRow : OpenClaim := { program := "ytgjdppegkoepfaa", sum := "7c546ec0477033cd64a6694522ba570a45d9e38a60951dbbc2233cc5d3b25a1f", func := "loop.example/g01161/laws.FnExactDirectionsOf", spec := "fnExactDirectionsOf", inPlace := ["internal/bytealg.CountString", "internal/bytealg.IndexByteString", "internal/bytealg.IndexString"], unfollowed := true, recurses := true, named := ["internal/bytealg.MaxLen"], apart := false }
def FnExactDirectionsOfSaid : Prop := fnExactDirectionsOfRow.holds Try.pinned (OpenSpec.ofChange fnExactDirectionsOfSpec)

/-- ITS FALSE NEIGHBOUR: 'it returns false'. Refute it at one input. -/
def fnExactDirectionsOfWrong : ChangeSpec := { name := "fnExactDirectionsOf", fn := fun _ => fun
  | [d] => { results := [.lit (.bool false)], args := [d] }
  | _ => none }
def FnExactDirectionsOfWrongFalsely : Prop := fnExactDirectionsOfRow.holds Try.pinned (OpenSpec.ofChange fnExactDirectionsOfWrong)

/-- 'laws.FnExactSlopesBeside': WHATEVER THE INPUT: true; the input reads as it did. -/
def fnExactSlopesBesideSpec : ChangeSpec := { name := "fnExactSlopesBeside", fn := fun _ => fun
  | [d1, d2] => { results := [.lit (.bool true)], args := [d1, d2] }
  | _ => none }
def fnExactSlopesBesideRow : OpenClaim := { program := "ytgjdppegkoepfaa", sum := "7c546ec0477033cd64a6694522ba570a45d9e38a60951dbbc2233cc5d3b25a1f", func := "loop.example/g01161/laws.FnExactSlopesBeside", spec := "fnExactSlopesBeside", inPlace := ["internal/bytealg.CountString", "internal/bytealg.IndexByteString", "internal/bytealg.IndexString"], unfollowed := true, recurses := true, named := ["internal/bytealg.MaxLen"], apart := false }
def FnExactSlopesBesideSaid : Prop := fnExactSlopesBesideRow.holds Try.pinned (OpenSpec.ofChange fnExactSlopesBesideSpec)

/-- ITS FALSE NEIGHBOUR: 'it returns false'. Refute it at one input. -/
def fnExactSlopesBesideWrong : ChangeSpec := { name := "fnExactSlopesBeside", fn := fun _ => fun
  | [d1, d2] => { results := [.lit (.bool false)], args := [d1, d2] }
  | _ => none }
def FnExactSlopesBesideWrongFalsely : Prop := fnExactSlopesBesideRow.holds Try.pinned (OpenSpec.ofChange fnExactSlopesBesideWrong)

/-- 'laws.FnExactOrbitOf': WHATEVER THE INPUT: true; the input reads as it did. -/
def fnExactOrbitOfSpec : ChangeSpec := { name := "fnExactOrbitOf", fn := fun _ => fun
  | [d1, d2, d3] => { results := [.lit (.bool true)], args := [d1, d2, d3] }
  | _ => none }
def fnExactOrbitOfRow : OpenClaim := { program := "ytgjdppegkoepfaa", sum := "7c546ec0477033cd64a6694522ba570a45d9e38a60951dbbc2233cc5d3b25a1f", func := "loop.example/g01161/laws.FnExactOrbitOf", spec := "fnExactOrbitOf", inPlace := ["internal/bytealg.CountString", "internal/bytealg.IndexByteString", "internal/bytealg.IndexString"], unfollowed := true, recurses := true, named := ["internal/bytealg.MaxLen"], apart := false }
def FnExactOrbitOfSaid : Prop := fnExactOrbitOfRow.holds Try.pinned (OpenSpec.ofChange fnExactOrbitOfSpec)

/-- ITS FALSE NEIGHBOUR: 'it returns false'. Refute it at one input. -/
def fnExactOrbitOfWrong : ChangeSpec := { name := "fnExactOrbitOf", fn := fun _ => fun
  | [d1, d2, d3] => { results := [.lit (.bool false)], args := [d1, d2, d3] }
  | _ => none }
def FnExactOrbitOfWrongFalsely : Prop := fnExactOrbitOfRow.holds Try.pinned (OpenSpec.ofChange fnExactOrbitOfWrong)

/-- 'laws.FnExactDoCommute': WHATEVER THE INPUT: true; the input reads as it did. -/
def fnExactDoCommuteSpec : ChangeSpec := { name := "fnExactDoCommute", fn := fun _ => fun
  | [d1, d2] => { results := [.lit (.bool true)], args := [d1, d2] }
  | _ => none }
def fnExactDoCommuteRow : OpenClaim := { program := "ytgjdppegkoepfaa", sum := "7c546ec0477033cd64a6694522ba570a45d9e38a60951dbbc2233cc5d3b25a1f", func := "loop.example/g01161/laws.FnExactDoCommute", spec := "fnExactDoCommute", inPlace := ["internal/bytealg.CountString", "internal/bytealg.IndexByteString", "internal/bytealg.IndexString", "internal/abi.NoEscape"], unfollowed := true, recurses := true, named := ["internal/bytealg.MaxLen"], apart := false }
def FnExactDoCommuteSaid : Prop := fnExactDoCommuteRow.holds Try.pinned (OpenSpec.ofChange fnExactDoCommuteSpec)

/-- ITS FALSE NEIGHBOUR: 'it returns false'. Refute it at one input. -/
def fnExactDoCommuteWrong : ChangeSpec := { name := "fnExactDoCommute", fn := fun _ => fun
  | [d1, d2] => { results := [.lit (.bool false)], args := [d1, d2] }
  | _ => none }
def FnExactDoCommuteWrongFalsely : Prop := fnExactDoCommuteRow.holds Try.pinned (OpenSpec.ofChange fnExactDoCommuteWrong)

/-- 'laws.FnExactPieceBetween': WHATEVER THE INPUT: true; the input reads as it did. -/
def fnExactPieceBetweenSpec : ChangeSpec := { name := "fnExactPieceBetween", fn := fun _ => fun
  | [d1, d2, d3] => { results := [.lit (.bool true)], args := [d1, d2, d3] }
  | _ => none }
def fnExactPieceBetweenRow : OpenClaim := { program := "ytgjdppegkoepfaa", sum := "7c546ec0477033cd64a6694522ba570a45d9e38a60951dbbc2233cc5d3b25a1f", func := "loop.example/g01161/laws.FnExactPieceBetween", spec := "fnExactPieceBetween", inPlace := ["internal/bytealg.CountString", "internal/bytealg.IndexByteString", "internal/bytealg.IndexString"], unfollowed := true, recurses := true, named := ["internal/bytealg.MaxLen"], apart := false }
def FnExactPieceBetweenSaid : Prop := fnExactPieceBetweenRow.holds Try.pinned (OpenSpec.ofChange fnExactPieceBetweenSpec)

/-- ITS FALSE NEIGHBOUR: 'it returns false'. Refute it at one input. -/
def fnExactPieceBetweenWrong : ChangeSpec := { name := "fnExactPieceBetween", fn := fun _ => fun
  | [d1, d2, d3] => { results := [.lit (.bool false)], args := [d1, d2, d3] }
  | _ => none }
def FnExactPieceBetweenWrongFalsely : Prop := fnExactPieceBetweenRow.holds Try.pinned (OpenSpec.ofChange fnExactPieceBetweenWrong)

/-- 'laws.FnExactAreApart': WHATEVER THE INPUT: true; the input reads as it did. -/
def fnExactAreApartSpec : ChangeSpec := { name := "fnExactAreApart", fn := fun _ => fun
  | [d1, d2] => { results := [.lit (.bool true)], args := [d1, d2] }
  | _ => none }
def fnExactAreApartRow : OpenClaim := { program := "ytgjdppegkoepfaa", sum := "7c546ec0477033cd64a6694522ba570a45d9e38a60951dbbc2233cc5d3b25a1f", func := "loop.example/g01161/laws.FnExactAreApart", spec := "fnExactAreApart", inPlace := ["internal/bytealg.CountString", "internal/bytealg.IndexByteString", "internal/bytealg.IndexString"], recurses := true, named := ["internal/bytealg.MaxLen"], apart := false }
def FnExactAreApartSaid : Prop := fnExactAreApartRow.holds Try.pinned (OpenSpec.ofChange fnExactAreApartSpec)

/-- ITS FALSE NEIGHBOUR: 'it returns false'. Refute it at one input. -/
def fnExactAreApartWrong : ChangeSpec := { name := "fnExactAreApart", fn := fun _ => fun
  | [d1, d2] => { results := [.lit (.bool false)], args := [d1, d2] }
  | _ => none }
def FnExactAreApartWrongFalsely : Prop := fnExactAreApartRow.holds Try.pinned (OpenSpec.ofChange fnExactAreApartWrong)

/- THE SECOND FORM. 'bulk': how many values and letters a reading holds, each counted each time it is reached (what is shared counts as often as it is met; a slice's spare places count too). A statement '..UptoSaid' is the law's where the arguments, and the package variables that the reading takes, are together of bulk at most 1048576: NARROWER than '..Said'. Prove '..Said' where nothing that the law and all that it calls make is longer than what came in: it says more and counts as full. Else prove '..UptoSaid'. A law counts once. -/
mutual
def uptoBulk {H : Type} : DataW H → Nat
  | .lit (.string bytes) => bytes.length + 1
  | .lit _ => 1
  | .nil => 1
  | .ptr d => uptoBulk d + 1
  | .slice elems spare => uptoBulkAll elems + uptoBulkAll spare + 1
  | .agg parts => uptoBulkAll parts + 1
  | .iface _ d => uptoBulk d + 1
  | .map entries => uptoBulkEntries entries + 1
  | .held _ => 1
def uptoBulkAll {H : Type} : List (DataW H) → Nat
  | [] => 0
  | d :: r => uptoBulk d + uptoBulkAll r
def uptoBulkEntries {H : Type} : List (Lit × DataW H) → Nat
  | [] => 0
  | x :: r => uptoBulkEntry x + uptoBulkEntries r
def uptoBulkEntry {H : Type} : Lit × DataW H → Nat
  | (.string bytes, d) => bytes.length + uptoBulk d + 1
  | (_, d) => uptoBulk d + 1
 end
def uptoSmall : (H : Type) → List (DataW H) → Bool := fun _ ds => decide (uptoBulkAll ds ≤ 1048576)
def OpenSpec.upto (s : _root_.Go.ChangeSpec) : _root_.Go.OpenSpec := { _root_.Go.OpenSpec.ofChange s with cond := some uptoSmall }

/-- 'laws.FnExactEndSlopes', WHERE WHAT IT READS IS OF BULK AT MOST 1048576: true; the input reads as it did. -/
def fnExactEndSlopesUptoRow : OpenClaim := { program := "ytgjdppegkoepfaa", sum := "7c546ec0477033cd64a6694522ba570a45d9e38a60951dbbc2233cc5d3b25a1f", func := "loop.example/g01161/laws.FnExactEndSlopes", spec := "fnExactEndSlopes", inPlace := ["internal/bytealg.CountString", "internal/bytealg.IndexByteString", "internal/bytealg.IndexString"], unfollowed := true, recurses := true, named := ["internal/bytealg.MaxLen"], apart := false, narrowed := true }
def FnExactEndSlopesUptoSaid : Prop := fnExactEndSlopesUptoRow.holds Try.pinned (OpenSpec.upto fnExactEndSlopesSpec)

/-- 'laws.FnExactIsInner', WHERE WHAT IT READS IS OF BULK AT MOST 1048576: true; the input reads as it did. -/
def fnExactIsInnerUptoRow : OpenClaim := { program := "ytgjdppegkoepfaa", sum := "7c546ec0477033cd64a6694522ba570a45d9e38a60951dbbc2233cc5d3b25a1f", func := "loop.example/g01161/laws.FnExactIsInner", spec := "fnExactIsInner", inPlace := ["internal/bytealg.CountString", "internal/bytealg.IndexByteString", "internal/bytealg.IndexString"], unfollowed := true, recurses := true, named := ["internal/bytealg.MaxLen"], apart := false, narrowed := true }
def FnExactIsInnerUptoSaid : Prop := fnExactIsInnerUptoRow.holds Try.pinned (OpenSpec.upto fnExactIsInnerSpec)

/-- 'laws.FnExactFixedIntervals', WHERE WHAT IT READS IS OF BULK AT MOST 1048576: true; the input reads as it did. -/
def fnExactFixedIntervalsUptoRow : OpenClaim := { program := "ytgjdppegkoepfaa", sum := "7c546ec0477033cd64a6694522ba570a45d9e38a60951dbbc2233cc5d3b25a1f", func := "loop.example/g01161/laws.FnExactFixedIntervals", spec := "fnExactFixedIntervals", inPlace := ["internal/bytealg.CountString", "internal/bytealg.IndexByteString", "internal/bytealg.IndexString"], recurses := true, named := ["internal/bytealg.MaxLen"], apart := false, narrowed := true }
def FnExactFixedIntervalsUptoSaid : Prop := fnExactFixedIntervalsUptoRow.holds Try.pinned (OpenSpec.upto fnExactFixedIntervalsSpec)

/-- 'laws.FnExactMovedIntervals', WHERE WHAT IT READS IS OF BULK AT MOST 1048576: true; the input reads as it did. -/
def fnExactMovedIntervalsUptoRow : OpenClaim := { program := "ytgjdppegkoepfaa", sum := "7c546ec0477033cd64a6694522ba570a45d9e38a60951dbbc2233cc5d3b25a1f", func := "loop.example/g01161/laws.FnExactMovedIntervals", spec := "fnExactMovedIntervals", inPlace := ["internal/bytealg.CountString", "internal/bytealg.IndexByteString", "internal/bytealg.IndexString"], recurses := true, named := ["internal/bytealg.MaxLen"], apart := false, narrowed := true }
def FnExactMovedIntervalsUptoSaid : Prop := fnExactMovedIntervalsUptoRow.holds Try.pinned (OpenSpec.upto fnExactMovedIntervalsSpec)

/-- 'laws.FnExactDirectionsOf', WHERE WHAT IT READS IS OF BULK AT MOST 1048576: true; the input reads as it did. -/
def fnExactDirectionsOfUptoRow : OpenClaim := { program := "ytgjdppegkoepfaa", sum := "7c546ec0477033cd64a6694522ba570a45d9e38a60951dbbc2233cc5d3b25a1f", func := "loop.example/g01161/laws.FnExactDirectionsOf", spec := "fnExactDirectionsOf", inPlace := ["internal/bytealg.CountString", "internal/bytealg.IndexByteString", "internal/bytealg.IndexString"], unfollowed := true, recurses := true, named := ["internal/bytealg.MaxLen"], apart := false, narrowed := true }
def FnExactDirectionsOfUptoSaid : Prop := fnExactDirectionsOfUptoRow.holds Try.pinned (OpenSpec.upto fnExactDirectionsOfSpec)

/-- 'laws.FnExactSlopesBeside', WHERE WHAT IT READS IS OF BULK AT MOST 1048576: true; the input reads as it did. -/
def fnExactSlopesBesideUptoRow : OpenClaim := { program := "ytgjdppegkoepfaa", sum := "7c546ec0477033cd64a6694522ba570a45d9e38a60951dbbc2233cc5d3b25a1f", func := "loop.example/g01161/laws.FnExactSlopesBeside", spec := "fnExactSlopesBeside", inPlace := ["internal/bytealg.CountString", "internal/bytealg.IndexByteString", "internal/bytealg.IndexString"], unfollowed := true, recurses := true, named := ["internal/bytealg.MaxLen"], apart := false, narrowed := true }
def FnExactSlopesBesideUptoSaid : Prop := fnExactSlopesBesideUptoRow.holds Try.pinned (OpenSpec.upto fnExactSlopesBesideSpec)

/-- 'laws.FnExactOrbitOf', WHERE WHAT IT READS IS OF BULK AT MOST 1048576: true; the input reads as it did. -/
def fnExactOrbitOfUptoRow : OpenClaim := { program := "ytgjdppegkoepfaa", sum := "7c546ec0477033cd64a6694522ba570a45d9e38a60951dbbc2233cc5d3b25a1f", func := "loop.example/g01161/laws.FnExactOrbitOf", spec := "fnExactOrbitOf", inPlace := ["internal/bytealg.CountString", "internal/bytealg.IndexByteString", "internal/bytealg.IndexString"], unfollowed := true, recurses := true, named := ["internal/bytealg.MaxLen"], apart := false, narrowed := true }
def FnExactOrbitOfUptoSaid : Prop := fnExactOrbitOfUptoRow.holds Try.pinned (OpenSpec.upto fnExactOrbitOfSpec)

/-- 'laws.FnExactDoCommute', WHERE WHAT IT READS IS OF BULK AT MOST 1048576: true; the input reads as it did. -/
def fnExactDoCommuteUptoRow : OpenClaim := { program := "ytgjdppegkoepfaa", sum := "7c546ec0477033cd64a6694522ba570a45d9e38a60951dbbc2233cc5d3b25a1f", func := "loop.example/g01161/laws.FnExactDoCommute", spec := "fnExactDoCommute", inPlace := ["internal/bytealg.CountString", "internal/bytealg.IndexByteString", "internal/bytealg.IndexString", "internal/abi.NoEscape"], unfollowed := true, recurses := true, named := ["internal/bytealg.MaxLen"], apart := false, narrowed := true }
def FnExactDoCommuteUptoSaid : Prop := fnExactDoCommuteUptoRow.holds Try.pinned (OpenSpec.upto fnExactDoCommuteSpec)

/-- 'laws.FnExactPieceBetween', WHERE WHAT IT READS IS OF BULK AT MOST 1048576: true; the input reads as it did. -/
def fnExactPieceBetweenUptoRow : OpenClaim := { program := "ytgjdppegkoepfaa", sum := "7c546ec0477033cd64a6694522ba570a45d9e38a60951dbbc2233cc5d3b25a1f", func := "loop.example/g01161/laws.FnExactPieceBetween", spec := "fnExactPieceBetween", inPlace := ["internal/bytealg.CountString", "internal/bytealg.IndexByteString", "internal/bytealg.IndexString"], unfollowed := true, recurses := true, named := ["internal/bytealg.MaxLen"], apart := false, narrowed := true }
def FnExactPieceBetweenUptoSaid : Prop := fnExactPieceBetweenUptoRow.holds Try.pinned (OpenSpec.upto fnExactPieceBetweenSpec)

/-- 'laws.FnExactAreApart', WHERE WHAT IT READS IS OF BULK AT MOST 1048576: true; the input reads as it did. -/
def fnExactAreApartUptoRow : OpenClaim := { program := "ytgjdppegkoepfaa", sum := "7c546ec0477033cd64a6694522ba570a45d9e38a60951dbbc2233cc5d3b25a1f", func := "loop.example/g01161/laws.FnExactAreApart", spec := "fnExactAreApart", inPlace := ["internal/bytealg.CountString", "internal/bytealg.IndexByteString", "internal/bytealg.IndexString"], recurses := true, named := ["internal/bytealg.MaxLen"], apart := false, narrowed := true }
def FnExactAreApartUptoSaid : Prop := fnExactAreApartUptoRow.holds Try.pinned (OpenSpec.upto fnExactAreApartSpec)

end Rows
end Go.Proofs.Ytgjdppegkoepfaa
