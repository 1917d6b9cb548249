/-
  No cell of these rows narrows 'for every input' (looked for: loops, veiled, ifaces, maps, wideKeys, modest, calm, conditions, laid).
  DERIVED. THE GIVEN ROWS OF THIS SEAT. 12 by the template 'for every input the law returns true; each argument reads behind the call as it read before'; 0 by the template 'total and deterministic' (their statements: YtbeailflcinilabTotals.lean).
  GIVEN WITH THE SEED: the statements are not yours to turn. If you find one false, say at which input.
  Laid BY PROGRAM, IN A SANDBOX (cutbox-rows.mjs): the forced cells as the released guide's own fill.sh prints them over the translation db2c3909f05bf6fe… (all of the seat's roots in one cut). By AI agents, Wed Nov 11 2026. No macro, syntax, notation, axiom, sorry.
-/
import Derived.Test.YtbeailflcinilabChecked
import GoSem.Claim
import GoSem.ClaimJoined
import GoSem.ClaimMapViews
import Derived.JoinedTies
import Derived.KernelRfl
namespace Go.Proofs.Ytbeailflcinilab
/- THE CELL 'sum', in the pinned program and in every row, IS THE sha256 OF THE DUMP (.gsa) THAT YtbeailflcinilabProg.lean LOADS. Nothing in Lean hashes anything: it is a label: what it is worth is what the hold of that sum in a sandbox is worth. -/
noncomputable def Try.pinned : Pinned := { name := "ytbeailflcinilab", sum := "db2c3909f05bf6fe2f569cade8bbb3d023739253574ee9042b86eeac80e61314", checked := Try.checked }
namespace Rows
def none {H : Type} : Left H := { results := [], args := [] }

/-- 'laws.FnExactIdentityPair': WHATEVER THE INPUT: true; the input reads as it did. -/
def fnExactIdentityPairSpec : ChangeSpec := { name := "fnExactIdentityPair", fn := fun _ => fun
  | [] => { results := [.lit (.bool true)], args := [] }
  | _ => none }
def fnExactIdentityPairRow : OpenClaim := { program := "ytbeailflcinilab", sum := "db2c3909f05bf6fe2f569cade8bbb3d023739253574ee9042b86eeac80e61314", func := "loop.example/g01161/laws.FnExactIdentityPair", spec := "fnExactIdentityPair", apart := false }
def FnExactIdentityPairSaid : Prop := fnExactIdentityPairRow.holds Try.pinned (OpenSpec.ofChange fnExactIdentityPairSpec)

/-- ITS FALSE NEIGHBOUR: 'it returns false'. Refute it at one input. -/
def fnExactIdentityPairWrong : ChangeSpec := { name := "fnExactIdentityPair", fn := fun _ => fun
  | [] => { results := [.lit (.bool false)], args := [] }
  | _ => none }
def FnExactIdentityPairWrongFalsely : Prop := fnExactIdentityPairRow.holds Try.pinned (OpenSpec.ofChange fnExactIdentityPairWrong)

/-- 'laws.FnExactGeneratorPair': WHATEVER THE INPUT: true; the input reads as it did. -/
def fnExactGeneratorPairSpec : ChangeSpec := { name := "fnExactGeneratorPair", fn := fun _ => fun
  | [d] => { results := [.lit (.bool true)], args := [d] }
  | _ => none }
def fnExactGeneratorPairRow : OpenClaim := { program := "ytbeailflcinilab", sum := "db2c3909f05bf6fe2f569cade8bbb3d023739253574ee9042b86eeac80e61314", func := "loop.example/g01161/laws.FnExactGeneratorPair", spec := "fnExactGeneratorPair", unfollowed := true, recurses := true, apart := false }
def FnExactGeneratorPairSaid : Prop := fnExactGeneratorPairRow.holds Try.pinned (OpenSpec.ofChange fnExactGeneratorPairSpec)

/-- ITS FALSE NEIGHBOUR: 'it returns false'. Refute it at one input. -/
def fnExactGeneratorPairWrong : ChangeSpec := { name := "fnExactGeneratorPair", fn := fun _ => fun
  | [d] => { results := [.lit (.bool false)], args := [d] }
  | _ => none }
def FnExactGeneratorPairWrongFalsely : Prop := fnExactGeneratorPairRow.holds Try.pinned (OpenSpec.ofChange fnExactGeneratorPairWrong)

/-- 'laws.FnExactMirrorPair': WHATEVER THE INPUT: true; the input reads as it did. -/
def fnExactMirrorPairSpec : ChangeSpec := { name := "fnExactMirrorPair", fn := fun _ => fun
  | [d] => { results := [.lit (.bool true)], args := [d] }
  | _ => none }
def fnExactMirrorPairRow : OpenClaim := { program := "ytbeailflcinilab", sum := "db2c3909f05bf6fe2f569cade8bbb3d023739253574ee9042b86eeac80e61314", func := "loop.example/g01161/laws.FnExactMirrorPair", spec := "fnExactMirrorPair", inPlace := ["internal/bytealg.CountString", "internal/bytealg.IndexByteString", "internal/bytealg.IndexString"], recurses := true, named := ["internal/bytealg.MaxLen"], apart := false }
def FnExactMirrorPairSaid : Prop := fnExactMirrorPairRow.holds Try.pinned (OpenSpec.ofChange fnExactMirrorPairSpec)

/-- ITS FALSE NEIGHBOUR: 'it returns false'. Refute it at one input. -/
def fnExactMirrorPairWrong : ChangeSpec := { name := "fnExactMirrorPair", fn := fun _ => fun
  | [d] => { results := [.lit (.bool false)], args := [d] }
  | _ => none }
def FnExactMirrorPairWrongFalsely : Prop := fnExactMirrorPairRow.holds Try.pinned (OpenSpec.ofChange fnExactMirrorPairWrong)

/-- 'laws.FnExactCountReduced': WHATEVER THE INPUT: true; the input reads as it did. -/
def fnExactCountReducedSpec : ChangeSpec := { name := "fnExactCountReduced", fn := fun _ => fun
  | [d] => { results := [.lit (.bool true)], args := [d] }
  | _ => none }
def fnExactCountReducedRow : OpenClaim := { program := "ytbeailflcinilab", sum := "db2c3909f05bf6fe2f569cade8bbb3d023739253574ee9042b86eeac80e61314", func := "loop.example/g01161/laws.FnExactCountReduced", spec := "fnExactCountReduced", recurses := true, apart := false }
def FnExactCountReducedSaid : Prop := fnExactCountReducedRow.holds Try.pinned (OpenSpec.ofChange fnExactCountReducedSpec)

/-- ITS FALSE NEIGHBOUR: 'it returns false'. Refute it at one input. -/
def fnExactCountReducedWrong : ChangeSpec := { name := "fnExactCountReduced", fn := fun _ => fun
  | [d] => { results := [.lit (.bool false)], args := [d] }
  | _ => none }
def FnExactCountReducedWrongFalsely : Prop := fnExactCountReducedRow.holds Try.pinned (OpenSpec.ofChange fnExactCountReducedWrong)

/-- 'laws.FnExactCountForests': WHATEVER THE INPUT: true; the input reads as it did. -/
def fnExactCountForestsSpec : ChangeSpec := { name := "fnExactCountForests", fn := fun _ => fun
  | [d1, d2] => { results := [.lit (.bool true)], args := [d1, d2] }
  | _ => none }
def fnExactCountForestsRow : OpenClaim := { program := "ytbeailflcinilab", sum := "db2c3909f05bf6fe2f569cade8bbb3d023739253574ee9042b86eeac80e61314", func := "loop.example/g01161/laws.FnExactCountForests", spec := "fnExactCountForests", recurses := true, apart := false }
def FnExactCountForestsSaid : Prop := fnExactCountForestsRow.holds Try.pinned (OpenSpec.ofChange fnExactCountForestsSpec)

/-- ITS FALSE NEIGHBOUR: 'it returns false'. Refute it at one input. -/
def fnExactCountForestsWrong : ChangeSpec := { name := "fnExactCountForests", fn := fun _ => fun
  | [d1, d2] => { results := [.lit (.bool false)], args := [d1, d2] }
  | _ => none }
def FnExactCountForestsWrongFalsely : Prop := fnExactCountForestsRow.holds Try.pinned (OpenSpec.ofChange fnExactCountForestsWrong)

/-- 'laws.FnExactPairText': WHATEVER THE INPUT: true; the input reads as it did. -/
def fnExactPairTextSpec : ChangeSpec := { name := "fnExactPairText", fn := fun _ => fun
  | [d] => { results := [.lit (.bool true)], args := [d] }
  | _ => none }
def fnExactPairTextRow : OpenClaim := { program := "ytbeailflcinilab", sum := "db2c3909f05bf6fe2f569cade8bbb3d023739253574ee9042b86eeac80e61314", func := "loop.example/g01161/laws.FnExactPairText", spec := "fnExactPairText", inPlace := ["internal/bytealg.CountString", "internal/bytealg.IndexByteString", "internal/bytealg.IndexString"], recurses := true, named := ["internal/bytealg.MaxLen"], apart := false }
def FnExactPairTextSaid : Prop := fnExactPairTextRow.holds Try.pinned (OpenSpec.ofChange fnExactPairTextSpec)

/-- ITS FALSE NEIGHBOUR: 'it returns false'. Refute it at one input. -/
def fnExactPairTextWrong : ChangeSpec := { name := "fnExactPairText", fn := fun _ => fun
  | [d] => { results := [.lit (.bool false)], args := [d] }
  | _ => none }
def FnExactPairTextWrongFalsely : Prop := fnExactPairTextRow.holds Try.pinned (OpenSpec.ofChange fnExactPairTextWrong)

/-- 'laws.FnExactParsePair': WHATEVER THE INPUT: true; the input reads as it did. -/
def fnExactParsePairSpec : ChangeSpec := { name := "fnExactParsePair", fn := fun _ => fun
  | [d] => { results := [.lit (.bool true)], args := [d] }
  | _ => none }
def fnExactParsePairRow : OpenClaim := { program := "ytbeailflcinilab", sum := "db2c3909f05bf6fe2f569cade8bbb3d023739253574ee9042b86eeac80e61314", func := "loop.example/g01161/laws.FnExactParsePair", spec := "fnExactParsePair", inPlace := ["internal/bytealg.IndexByteString", "internal/bytealg.IndexString", "internal/bytealg.CountString"], recurses := true, named := ["internal/bytealg.MaxLen"], apart := false }
def FnExactParsePairSaid : Prop := fnExactParsePairRow.holds Try.pinned (OpenSpec.ofChange fnExactParsePairSpec)

/-- ITS FALSE NEIGHBOUR: 'it returns false'. Refute it at one input. -/
def fnExactParsePairWrong : ChangeSpec := { name := "fnExactParsePair", fn := fun _ => fun
  | [d] => { results := [.lit (.bool false)], args := [d] }
  | _ => none }
def FnExactParsePairWrongFalsely : Prop := fnExactParsePairRow.holds Try.pinned (OpenSpec.ofChange fnExactParsePairWrong)

/-- 'laws.FnExactAllTrees': WHATEVER THE INPUT: true; the input reads as it did. -/
def fnExactAllTreesSpec : ChangeSpec := { name := "fnExactAllTrees", fn := fun _ => fun
  | [d] => { results := [.lit (.bool true)], args := [d] }
  | _ => none }
def fnExactAllTreesRow : OpenClaim := { program := "ytbeailflcinilab", sum := "db2c3909f05bf6fe2f569cade8bbb3d023739253574ee9042b86eeac80e61314", func := "loop.example/g01161/laws.FnExactAllTrees", spec := "fnExactAllTrees", recurses := true, apart := false }
def FnExactAllTreesSaid : Prop := fnExactAllTreesRow.holds Try.pinned (OpenSpec.ofChange fnExactAllTreesSpec)

/-- ITS FALSE NEIGHBOUR: 'it returns false'. Refute it at one input. -/
def fnExactAllTreesWrong : ChangeSpec := { name := "fnExactAllTrees", fn := fun _ => fun
  | [d] => { results := [.lit (.bool false)], args := [d] }
  | _ => none }
def FnExactAllTreesWrongFalsely : Prop := fnExactAllTreesRow.holds Try.pinned (OpenSpec.ofChange fnExactAllTreesWrong)

/-- 'laws.FnExactRankTree': WHATEVER THE INPUT: true; the input reads as it did. -/
def fnExactRankTreeSpec : ChangeSpec := { name := "fnExactRankTree", fn := fun _ => fun
  | [d] => { results := [.lit (.bool true)], args := [d] }
  | _ => none }
def fnExactRankTreeRow : OpenClaim := { program := "ytbeailflcinilab", sum := "db2c3909f05bf6fe2f569cade8bbb3d023739253574ee9042b86eeac80e61314", func := "loop.example/g01161/laws.FnExactRankTree", spec := "fnExactRankTree", inPlace := ["internal/bytealg.CountString", "internal/bytealg.IndexByteString", "internal/bytealg.IndexString"], recurses := true, named := ["internal/bytealg.MaxLen"], apart := false }
def FnExactRankTreeSaid : Prop := fnExactRankTreeRow.holds Try.pinned (OpenSpec.ofChange fnExactRankTreeSpec)

/-- ITS FALSE NEIGHBOUR: 'it returns false'. Refute it at one input. -/
def fnExactRankTreeWrong : ChangeSpec := { name := "fnExactRankTree", fn := fun _ => fun
  | [d] => { results := [.lit (.bool false)], args := [d] }
  | _ => none }
def FnExactRankTreeWrongFalsely : Prop := fnExactRankTreeRow.holds Try.pinned (OpenSpec.ofChange fnExactRankTreeWrong)

/-- 'laws.FnExactTreeAt': WHATEVER THE INPUT: true; the input reads as it did. -/
def fnExactTreeAtSpec : ChangeSpec := { name := "fnExactTreeAt", fn := fun _ => fun
  | [d1, d2] => { results := [.lit (.bool true)], args := [d1, d2] }
  | _ => none }
def fnExactTreeAtRow : OpenClaim := { program := "ytbeailflcinilab", sum := "db2c3909f05bf6fe2f569cade8bbb3d023739253574ee9042b86eeac80e61314", func := "loop.example/g01161/laws.FnExactTreeAt", spec := "fnExactTreeAt", recurses := true, apart := false }
def FnExactTreeAtSaid : Prop := fnExactTreeAtRow.holds Try.pinned (OpenSpec.ofChange fnExactTreeAtSpec)

/-- ITS FALSE NEIGHBOUR: 'it returns false'. Refute it at one input. -/
def fnExactTreeAtWrong : ChangeSpec := { name := "fnExactTreeAt", fn := fun _ => fun
  | [d1, d2] => { results := [.lit (.bool false)], args := [d1, d2] }
  | _ => none }
def FnExactTreeAtWrongFalsely : Prop := fnExactTreeAtRow.holds Try.pinned (OpenSpec.ofChange fnExactTreeAtWrong)

/-- 'laws.FnTreesCounted': WHATEVER THE INPUT: true; the input reads as it did. -/
def fnTreesCountedSpec : ChangeSpec := { name := "fnTreesCounted", fn := fun _ => fun
  | [d1, d2] => { results := [.lit (.bool true)], args := [d1, d2] }
  | _ => none }
def fnTreesCountedRow : OpenClaim := { program := "ytbeailflcinilab", sum := "db2c3909f05bf6fe2f569cade8bbb3d023739253574ee9042b86eeac80e61314", func := "loop.example/g01161/laws.FnTreesCounted", spec := "fnTreesCounted", inPlace := ["internal/bytealg.CountString", "internal/bytealg.IndexByteString", "internal/bytealg.IndexString"], unfollowed := true, recurses := true, named := ["internal/bytealg.MaxLen"], apart := false }
def FnTreesCountedSaid : Prop := fnTreesCountedRow.holds Try.pinned (OpenSpec.ofChange fnTreesCountedSpec)

/-- ITS FALSE NEIGHBOUR: 'it returns false'. Refute it at one input. -/
def fnTreesCountedWrong : ChangeSpec := { name := "fnTreesCounted", fn := fun _ => fun
  | [d1, d2] => { results := [.lit (.bool false)], args := [d1, d2] }
  | _ => none }
def FnTreesCountedWrongFalsely : Prop := fnTreesCountedRow.holds Try.pinned (OpenSpec.ofChange fnTreesCountedWrong)

/-- 'laws.FnTreesJoined': WHATEVER THE INPUT: true; the input reads as it did. -/
def fnTreesJoinedSpec : ChangeSpec := { name := "fnTreesJoined", fn := fun _ => fun
  | [d1, d2] => { results := [.lit (.bool true)], args := [d1, d2] }
  | _ => none }
def fnTreesJoinedRow : OpenClaim := { program := "ytbeailflcinilab", sum := "db2c3909f05bf6fe2f569cade8bbb3d023739253574ee9042b86eeac80e61314", func := "loop.example/g01161/laws.FnTreesJoined", spec := "fnTreesJoined", inPlace := ["internal/bytealg.CountString", "internal/bytealg.IndexByteString", "internal/bytealg.IndexString"], unfollowed := true, recurses := true, named := ["internal/bytealg.MaxLen"], apart := false }
def FnTreesJoinedSaid : Prop := fnTreesJoinedRow.holds Try.pinned (OpenSpec.ofChange fnTreesJoinedSpec)

/-- ITS FALSE NEIGHBOUR: 'it returns false'. Refute it at one input. -/
def fnTreesJoinedWrong : ChangeSpec := { name := "fnTreesJoined", fn := fun _ => fun
  | [d1, d2] => { results := [.lit (.bool false)], args := [d1, d2] }
  | _ => none }
def FnTreesJoinedWrongFalsely : Prop := fnTreesJoinedRow.holds Try.pinned (OpenSpec.ofChange fnTreesJoinedWrong)

/- THE SECOND FORM. 'bulk': how many values and letters a reading holds, each counted each time it is reached (what is shared counts as often as it is met; a slice's spare places count too). A statement '..UptoSaid' is the law's where the arguments, and the package variables that the reading takes, are together of bulk at most 1048576: NARROWER than '..Said'. Prove '..Said' where nothing that the law and all that it calls make is longer than what came in: it says more and counts as full. Else prove '..UptoSaid'. A law counts once. -/
mutual
def uptoBulk {H : Type} : DataW H → Nat
  | .lit (.string bytes) => bytes.length + 1
  | .lit _ => 1
  | .nil => 1
  | .ptr d => uptoBulk d + 1
  | .slice elems spare => uptoBulkAll elems + uptoBulkAll spare + 1
  | .agg parts => uptoBulkAll parts + 1
  | .iface _ d => uptoBulk d + 1
  | .map entries => uptoBulkEntries entries + 1
  | .held _ => 1
def uptoBulkAll {H : Type} : List (DataW H) → Nat
  | [] => 0
  | d :: r => uptoBulk d + uptoBulkAll r
def uptoBulkEntries {H : Type} : List (Lit × DataW H) → Nat
  | [] => 0
  | x :: r => uptoBulkEntry x + uptoBulkEntries r
def uptoBulkEntry {H : Type} : Lit × DataW H → Nat
  | (.string bytes, d) => bytes.length + uptoBulk d + 1
  | (_, d) => uptoBulk d + 1
 end
def uptoSmall : (H : Type) → List (DataW H) → Bool := fun _ ds => decide (uptoBulkAll ds ≤ 1048576)
def OpenSpec.upto (s : _root_.Go.ChangeSpec) : _root_.Go.OpenSpec := { _root_.Go.OpenSpec.ofChange s with cond := some uptoSmall }

/-- 'laws.FnExactIdentityPair', WHERE WHAT IT READS IS OF BULK AT MOST 1048576: true; the input reads as it did. -/
def fnExactIdentityPairUptoRow : OpenClaim := { program := "ytbeailflcinilab", sum := "db2c3909f05bf6fe2f569cade8bbb3d023739253574ee9042b86eeac80e61314", func := "loop.example/g01161/laws.FnExactIdentityPair", spec := "fnExactIdentityPair", apart := false, narrowed := true }
def FnExactIdentityPairUptoSaid : Prop := fnExactIdentityPairUptoRow.holds Try.pinned (OpenSpec.upto fnExactIdentityPairSpec)

/-- 'laws.FnExactGeneratorPair', WHERE WHAT IT READS IS OF BULK AT MOST 1048576: true; the input reads as it did. -/
def fnExactGeneratorPairUptoRow : OpenClaim := { program := "ytbeailflcinilab", sum := "db2c3909f05bf6fe2f569cade8bbb3d023739253574ee9042b86eeac80e61314", func := "loop.example/g01161/laws.FnExactGeneratorPair", spec := "fnExactGeneratorPair", unfollowed := true, recurses := true, apart := false, narrowed := true }
def FnExactGeneratorPairUptoSaid : Prop := fnExactGeneratorPairUptoRow.holds Try.pinned (OpenSpec.upto fnExactGeneratorPairSpec)

/-- 'laws.FnExactMirrorPair', WHERE WHAT IT READS IS OF BULK AT MOST 1048576: true; the input reads as it did. -/
def fnExactMirrorPairUptoRow : OpenClaim := { program := "ytbeailflcinilab", sum := "db2c3909f05bf6fe2f569cade8bbb3d023739253574ee9042b86eeac80e61314", func := "loop.example/g01161/laws.FnExactMirrorPair", spec := "fnExactMirrorPair", inPlace := ["internal/bytealg.CountString", "internal/bytealg.IndexByteString", "internal/bytealg.IndexString"], recurses := true, named := ["internal/bytealg.MaxLen"], apart := false, narrowed := true }
def FnExactMirrorPairUptoSaid : Prop := fnExactMirrorPairUptoRow.holds Try.pinned (OpenSpec.upto fnExactMirrorPairSpec)

/-- 'laws.FnExactCountReduced', WHERE WHAT IT READS IS OF BULK AT MOST 1048576: true; the input reads as it did. -/
def fnExactCountReducedUptoRow : OpenClaim := { program := "ytbeailflcinilab", sum := "db2c3909f05bf6fe2f569cade8bbb3d023739253574ee9042b86eeac80e61314", func := "loop.example/g01161/laws.FnExactCountReduced", spec := "fnExactCountReduced", recurses := true, apart := false, narrowed := true }
def FnExactCountReducedUptoSaid : Prop := fnExactCountReducedUptoRow.holds Try.pinned (OpenSpec.upto fnExactCountReducedSpec)

/-- 'laws.FnExactCountForests', WHERE WHAT IT READS IS OF BULK AT MOST 1048576: true; the input reads as it did. -/
def fnExactCountForestsUptoRow : OpenClaim := { program := "ytbeailflcinilab", sum := "db2c3909f05bf6fe2f569cade8bbb3d023739253574ee9042b86eeac80e61314", func := "loop.example/g01161/laws.FnExactCountForests", spec := "fnExactCountForests", recurses := true, apart := false, narrowed := true }
def FnExactCountForestsUptoSaid : Prop := fnExactCountForestsUptoRow.holds Try.pinned (OpenSpec.upto fnExactCountForestsSpec)

/-- 'laws.FnExactPairText', WHERE WHAT IT READS IS OF BULK AT MOST 1048576: true; the input reads as it did. -/
def fnExactPairTextUptoRow : OpenClaim := { program := "ytbeailflcinilab", sum := "db2c3909f05bf6fe2f569cade8bbb3d023739253574ee9042b86eeac80e61314", func := "loop.example/g01161/laws.FnExactPairText", spec := "fnExactPairText", inPlace := ["internal/bytealg.CountString", "internal/bytealg.IndexByteString", "internal/bytealg.IndexString"], recurses := true, named := ["internal/bytealg.MaxLen"], apart := false, narrowed := true }
def FnExactPairTextUptoSaid : Prop := fnExactPairTextUptoRow.holds Try.pinned (OpenSpec.upto fnExactPairTextSpec)

/-- 'laws.FnExactParsePair', WHERE WHAT IT READS IS OF BULK AT MOST 1048576: true; the input reads as it did. -/
def fnExactParsePairUptoRow : OpenClaim := { program := "ytbeailflcinilab", sum := "db2c3909f05bf6fe2f569cade8bbb3d023739253574ee9042b86eeac80e61314", func := "loop.example/g01161/laws.FnExactParsePair", spec := "fnExactParsePair", inPlace := ["internal/bytealg.IndexByteString", "internal/bytealg.IndexString", "internal/bytealg.CountString"], recurses := true, named := ["internal/bytealg.MaxLen"], apart := false, narrowed := true }
def FnExactParsePairUptoSaid : Prop := fnExactParsePairUptoRow.holds Try.pinned (OpenSpec.upto fnExactParsePairSpec)

/-- 'laws.FnExactAllTrees', WHERE WHAT IT READS IS OF BULK AT MOST 1048576: true; the input reads as it did. -/
def fnExactAllTreesUptoRow : OpenClaim := { program := "ytbeailflcinilab", sum := "db2c3909f05bf6fe2f569cade8bbb3d023739253574ee9042b86eeac80e61314", func := "loop.example/g01161/laws.FnExactAllTrees", spec := "fnExactAllTrees", recurses := true, apart := false, narrowed := true }
def FnExactAllTreesUptoSaid : Prop := fnExactAllTreesUptoRow.holds Try.pinned (OpenSpec.upto fnExactAllTreesSpec)

/-- 'laws.FnExactRankTree', WHERE WHAT IT READS IS OF BULK AT MOST 1048576: true; the input reads as it did. -/
def fnExactRankTreeUptoRow : OpenClaim := { program := "ytbeailflcinilab", sum := "db2c3909f05bf6fe2f569cade8bbb3d023739253574ee9042b86eeac80e61314", func := "loop.example/g01161/laws.FnExactRankTree", spec := "fnExactRankTree", inPlace := ["internal/bytealg.CountString", "internal/bytealg.IndexByteString", "internal/bytealg.IndexString"], recurses := true, named := ["internal/bytealg.MaxLen"], apart := false, narrowed := true }
def FnExactRankTreeUptoSaid : Prop := fnExactRankTreeUptoRow.holds Try.pinned (OpenSpec.upto fnExactRankTreeSpec)

/-- 'laws.FnExactTreeAt', WHERE WHAT IT READS IS OF BULK AT MOST 1048576: true; the input reads as it did. -/
def fnExactTreeAtUptoRow : OpenClaim := { program := "ytbeailflcinilab", sum := "db2c3909f05bf6fe2f569cade8bbb3d023739253574ee9042b86eeac80e61314", func := "loop.example/g01161/laws.FnExactTreeAt", spec := "fnExactTreeAt", recurses := true, apart := false, narrowed := true }
def FnExactTreeAtUptoSaid : Prop := fnExactTreeAtUptoRow.holds Try.pinned (OpenSpec.upto fnExactTreeAtSpec)

/-- 'laws.FnTreesCounted', WHERE WHAT IT READS IS OF BULK AT MOST 1048576: true; the input reads as it did. -/
def fnTreesCountedUptoRow : OpenClaim := { program := "ytbeailflcinilab", sum := "db2c3909f05bf6fe2f569cade8bbb3d023739253574ee9042b86eeac80e61314", func := "loop.example/g01161/laws.FnTreesCounted", spec := "fnTreesCounted", inPlace := ["internal/bytealg.CountString", "internal/bytealg.IndexByteString", "internal/bytealg.IndexString"], unfollowed := true, recurses := true, named := ["internal/bytealg.MaxLen"], apart := false, narrowed := true }
def FnTreesCountedUptoSaid : Prop := fnTreesCountedUptoRow.holds Try.pinned (OpenSpec.upto fnTreesCountedSpec)

/-- 'laws.FnTreesJoined', WHERE WHAT IT READS IS OF BULK AT MOST 1048576: true; the input reads as it did. -/
def fnTreesJoinedUptoRow : OpenClaim := { program := "ytbeailflcinilab", sum := "db2c3909f05bf6fe2f569cade8bbb3d023739253574ee9042b86eeac80e61314", func := "loop.example/g01161/laws.FnTreesJoined", spec := "fnTreesJoined", inPlace := ["internal/bytealg.CountString", "internal/bytealg.IndexByteString", "internal/bytealg.IndexString"], unfollowed := true, recurses := true, named := ["internal/bytealg.MaxLen"], apart := false, narrowed := true }
def FnTreesJoinedUptoSaid : Prop := fnTreesJoinedUptoRow.holds Try.pinned (OpenSpec.upto fnTreesJoinedSpec)

end Rows
end Go.Proofs.Ytbeailflcinilab
