/-
  No cell of these rows narrows 'for every input' (looked for: loops, veiled, ifaces, maps, wideKeys, modest, calm, conditions, laid).
  DERIVED. THE GIVEN ROWS OF THIS SEAT. 10 by the template 'for every input the law returns true; each argument reads behind the call as it read before'; 0 by the template 'total and deterministic' (their statements: YtplmbdljhgicfaaTotals.lean).
  GIVEN WITH THE SEED: the statements are not yours to turn. If you find one false, say at which input.
  Laid BY PROGRAM, IN A SANDBOX (cutbox-rows.mjs): the forced cells as the released guide's own fill.sh prints them over the translation b21ae3cbf7a5917a… (all of the seat's roots in one cut). By AI agents, Wed Nov 11 2026. No macro, syntax, notation, axiom, sorry.
-/
import Derived.Test.YtplmbdljhgicfaaChecked
import GoSem.Claim
import GoSem.ClaimJoined
import GoSem.ClaimMapViews
import Derived.JoinedTies
import Derived.KernelRfl
namespace Go.Proofs.Ytplmbdljhgicfaa
/- THE CELL 'sum', in the pinned program and in every row, IS THE sha256 OF THE DUMP (.gsa) THAT YtplmbdljhgicfaaProg.lean LOADS. Nothing in Lean hashes anything: it is a label: what it is worth is what the hold of that sum in a sandbox is worth. -/
noncomputable def Try.pinned : Pinned := { name := "ytplmbdljhgicfaa", sum := "b21ae3cbf7a5917ad2959e0d0d9c3a24786976c8793c441546175d376a441a36", checked := Try.checked }
namespace Rows
def none {H : Type} : Left H := { results := [], args := [] }

/-- 'laws.FnExactIsForest': WHATEVER THE INPUT: true; the input reads as it did. -/
def fnExactIsForestSpec : ChangeSpec := { name := "fnExactIsForest", fn := fun _ => fun
  | [d] => { results := [.lit (.bool true)], args := [d] }
  | _ => none }
def fnExactIsForestRow : OpenClaim := { program := "ytplmbdljhgicfaa", sum := "b21ae3cbf7a5917ad2959e0d0d9c3a24786976c8793c441546175d376a441a36", func := "loop.example/g01161/laws.FnExactIsForest", spec := "fnExactIsForest", inPlace := ["internal/bytealg.CountString", "internal/bytealg.IndexByteString", "internal/bytealg.IndexString"], unfollowed := true, recurses := true, named := ["internal/bytealg.MaxLen"], apart := false }
def FnExactIsForestSaid : Prop := fnExactIsForestRow.holds Try.pinned (OpenSpec.ofChange fnExactIsForestSpec)

/-- ITS FALSE NEIGHBOUR: 'it returns false'. Refute it at one input. -/
def fnExactIsForestWrong : ChangeSpec := { name := "fnExactIsForest", fn := fun _ => fun
  | [d] => { results := [.lit (.bool false)], args := [d] }
  | _ => none }
def FnExactIsForestWrongFalsely : Prop := fnExactIsForestRow.holds Try.pinned (OpenSpec.ofChange fnExactIsForestWrong)

/-- 'laws.FnExactLeavesOfForest': WHATEVER THE INPUT: true; the input reads as it did. -/
def fnExactLeavesOfForestSpec : ChangeSpec := { name := "fnExactLeavesOfForest", fn := fun _ => fun
  | [d] => { results := [.lit (.bool true)], args := [d] }
  | _ => none }
def fnExactLeavesOfForestRow : OpenClaim := { program := "ytplmbdljhgicfaa", sum := "b21ae3cbf7a5917ad2959e0d0d9c3a24786976c8793c441546175d376a441a36", func := "loop.example/g01161/laws.FnExactLeavesOfForest", spec := "fnExactLeavesOfForest", inPlace := ["internal/bytealg.CountString", "internal/bytealg.IndexByteString", "internal/bytealg.IndexString"], unfollowed := true, recurses := true, named := ["internal/bytealg.MaxLen"], apart := false }
def FnExactLeavesOfForestSaid : Prop := fnExactLeavesOfForestRow.holds Try.pinned (OpenSpec.ofChange fnExactLeavesOfForestSpec)

/-- ITS FALSE NEIGHBOUR: 'it returns false'. Refute it at one input. -/
def fnExactLeavesOfForestWrong : ChangeSpec := { name := "fnExactLeavesOfForest", fn := fun _ => fun
  | [d] => { results := [.lit (.bool false)], args := [d] }
  | _ => none }
def FnExactLeavesOfForestWrongFalsely : Prop := fnExactLeavesOfForestRow.holds Try.pinned (OpenSpec.ofChange fnExactLeavesOfForestWrong)

/-- 'laws.FnExactCountForestCarets': WHATEVER THE INPUT: true; the input reads as it did. -/
def fnExactCountForestCaretsSpec : ChangeSpec := { name := "fnExactCountForestCarets", fn := fun _ => fun
  | [d] => { results := [.lit (.bool true)], args := [d] }
  | _ => none }
def fnExactCountForestCaretsRow : OpenClaim := { program := "ytplmbdljhgicfaa", sum := "b21ae3cbf7a5917ad2959e0d0d9c3a24786976c8793c441546175d376a441a36", func := "loop.example/g01161/laws.FnExactCountForestCarets", spec := "fnExactCountForestCarets", inPlace := ["internal/bytealg.CountString", "internal/bytealg.IndexByteString", "internal/bytealg.IndexString"], unfollowed := true, recurses := true, named := ["internal/bytealg.MaxLen"], apart := false }
def FnExactCountForestCaretsSaid : Prop := fnExactCountForestCaretsRow.holds Try.pinned (OpenSpec.ofChange fnExactCountForestCaretsSpec)

/-- ITS FALSE NEIGHBOUR: 'it returns false'. Refute it at one input. -/
def fnExactCountForestCaretsWrong : ChangeSpec := { name := "fnExactCountForestCarets", fn := fun _ => fun
  | [d] => { results := [.lit (.bool false)], args := [d] }
  | _ => none }
def FnExactCountForestCaretsWrongFalsely : Prop := fnExactCountForestCaretsRow.holds Try.pinned (OpenSpec.ofChange fnExactCountForestCaretsWrong)

/-- 'laws.FnExactForestText': WHATEVER THE INPUT: true; the input reads as it did. -/
def fnExactForestTextSpec : ChangeSpec := { name := "fnExactForestText", fn := fun _ => fun
  | [d] => { results := [.lit (.bool true)], args := [d] }
  | _ => none }
def fnExactForestTextRow : OpenClaim := { program := "ytplmbdljhgicfaa", sum := "b21ae3cbf7a5917ad2959e0d0d9c3a24786976c8793c441546175d376a441a36", func := "loop.example/g01161/laws.FnExactForestText", spec := "fnExactForestText", inPlace := ["internal/bytealg.CountString", "internal/bytealg.IndexByteString", "internal/bytealg.IndexString", "internal/abi.NoEscape", "internal/bytealg.MakeNoZero"], unfollowed := true, recurses := true, named := ["internal/bytealg.MaxLen"], apart := false }
def FnExactForestTextSaid : Prop := fnExactForestTextRow.holds Try.pinned (OpenSpec.ofChange fnExactForestTextSpec)

/-- ITS FALSE NEIGHBOUR: 'it returns false'. Refute it at one input. -/
def fnExactForestTextWrong : ChangeSpec := { name := "fnExactForestText", fn := fun _ => fun
  | [d] => { results := [.lit (.bool false)], args := [d] }
  | _ => none }
def FnExactForestTextWrongFalsely : Prop := fnExactForestTextRow.holds Try.pinned (OpenSpec.ofChange fnExactForestTextWrong)

/-- 'laws.FnExactIsPartOfForest': WHATEVER THE INPUT: true; the input reads as it did. -/
def fnExactIsPartOfForestSpec : ChangeSpec := { name := "fnExactIsPartOfForest", fn := fun _ => fun
  | [d1, d2] => { results := [.lit (.bool true)], args := [d1, d2] }
  | _ => none }
def fnExactIsPartOfForestRow : OpenClaim := { program := "ytplmbdljhgicfaa", sum := "b21ae3cbf7a5917ad2959e0d0d9c3a24786976c8793c441546175d376a441a36", func := "loop.example/g01161/laws.FnExactIsPartOfForest", spec := "fnExactIsPartOfForest", inPlace := ["internal/bytealg.CountString", "internal/bytealg.IndexByteString", "internal/bytealg.IndexString"], unfollowed := true, recurses := true, named := ["internal/bytealg.MaxLen"], apart := false }
def FnExactIsPartOfForestSaid : Prop := fnExactIsPartOfForestRow.holds Try.pinned (OpenSpec.ofChange fnExactIsPartOfForestSpec)

/-- ITS FALSE NEIGHBOUR: 'it returns false'. Refute it at one input. -/
def fnExactIsPartOfForestWrong : ChangeSpec := { name := "fnExactIsPartOfForest", fn := fun _ => fun
  | [d1, d2] => { results := [.lit (.bool false)], args := [d1, d2] }
  | _ => none }
def FnExactIsPartOfForestWrongFalsely : Prop := fnExactIsPartOfForestRow.holds Try.pinned (OpenSpec.ofChange fnExactIsPartOfForestWrong)

/-- 'laws.FnExactJoinForests': WHATEVER THE INPUT: true; the input reads as it did. -/
def fnExactJoinForestsSpec : ChangeSpec := { name := "fnExactJoinForests", fn := fun _ => fun
  | [d1, d2] => { results := [.lit (.bool true)], args := [d1, d2] }
  | _ => none }
def fnExactJoinForestsRow : OpenClaim := { program := "ytplmbdljhgicfaa", sum := "b21ae3cbf7a5917ad2959e0d0d9c3a24786976c8793c441546175d376a441a36", func := "loop.example/g01161/laws.FnExactJoinForests", spec := "fnExactJoinForests", inPlace := ["internal/bytealg.CountString", "internal/bytealg.IndexByteString", "internal/bytealg.IndexString"], unfollowed := true, recurses := true, named := ["internal/bytealg.MaxLen"], apart := false }
def FnExactJoinForestsSaid : Prop := fnExactJoinForestsRow.holds Try.pinned (OpenSpec.ofChange fnExactJoinForestsSpec)

/-- ITS FALSE NEIGHBOUR: 'it returns false'. Refute it at one input. -/
def fnExactJoinForestsWrong : ChangeSpec := { name := "fnExactJoinForests", fn := fun _ => fun
  | [d1, d2] => { results := [.lit (.bool false)], args := [d1, d2] }
  | _ => none }
def FnExactJoinForestsWrongFalsely : Prop := fnExactJoinForestsRow.holds Try.pinned (OpenSpec.ofChange fnExactJoinForestsWrong)

/-- 'laws.FnExactCommonForest': WHATEVER THE INPUT: true; the input reads as it did. -/
def fnExactCommonForestSpec : ChangeSpec := { name := "fnExactCommonForest", fn := fun _ => fun
  | [d1, d2] => { results := [.lit (.bool true)], args := [d1, d2] }
  | _ => none }
def fnExactCommonForestRow : OpenClaim := { program := "ytplmbdljhgicfaa", sum := "b21ae3cbf7a5917ad2959e0d0d9c3a24786976c8793c441546175d376a441a36", func := "loop.example/g01161/laws.FnExactCommonForest", spec := "fnExactCommonForest", inPlace := ["internal/bytealg.CountString", "internal/bytealg.IndexByteString", "internal/bytealg.IndexString"], unfollowed := true, recurses := true, named := ["internal/bytealg.MaxLen"], apart := false }
def FnExactCommonForestSaid : Prop := fnExactCommonForestRow.holds Try.pinned (OpenSpec.ofChange fnExactCommonForestSpec)

/-- ITS FALSE NEIGHBOUR: 'it returns false'. Refute it at one input. -/
def fnExactCommonForestWrong : ChangeSpec := { name := "fnExactCommonForest", fn := fun _ => fun
  | [d1, d2] => { results := [.lit (.bool false)], args := [d1, d2] }
  | _ => none }
def FnExactCommonForestWrongFalsely : Prop := fnExactCommonForestRow.holds Try.pinned (OpenSpec.ofChange fnExactCommonForestWrong)

/-- 'laws.FnExactForestsOfPair': WHATEVER THE INPUT: true; the input reads as it did. -/
def fnExactForestsOfPairSpec : ChangeSpec := { name := "fnExactForestsOfPair", fn := fun _ => fun
  | [d] => { results := [.lit (.bool true)], args := [d] }
  | _ => none }
def fnExactForestsOfPairRow : OpenClaim := { program := "ytplmbdljhgicfaa", sum := "b21ae3cbf7a5917ad2959e0d0d9c3a24786976c8793c441546175d376a441a36", func := "loop.example/g01161/laws.FnExactForestsOfPair", spec := "fnExactForestsOfPair", inPlace := ["internal/bytealg.CountString", "internal/bytealg.IndexByteString", "internal/bytealg.IndexString"], unfollowed := true, recurses := true, named := ["internal/bytealg.MaxLen"], apart := false }
def FnExactForestsOfPairSaid : Prop := fnExactForestsOfPairRow.holds Try.pinned (OpenSpec.ofChange fnExactForestsOfPairSpec)

/-- ITS FALSE NEIGHBOUR: 'it returns false'. Refute it at one input. -/
def fnExactForestsOfPairWrong : ChangeSpec := { name := "fnExactForestsOfPair", fn := fun _ => fun
  | [d] => { results := [.lit (.bool false)], args := [d] }
  | _ => none }
def FnExactForestsOfPairWrongFalsely : Prop := fnExactForestsOfPairRow.holds Try.pinned (OpenSpec.ofChange fnExactForestsOfPairWrong)

/-- 'laws.FnExactPairOfForest': WHATEVER THE INPUT: true; the input reads as it did. -/
def fnExactPairOfForestSpec : ChangeSpec := { name := "fnExactPairOfForest", fn := fun _ => fun
  | [d] => { results := [.lit (.bool true)], args := [d] }
  | _ => none }
def fnExactPairOfForestRow : OpenClaim := { program := "ytplmbdljhgicfaa", sum := "b21ae3cbf7a5917ad2959e0d0d9c3a24786976c8793c441546175d376a441a36", func := "loop.example/g01161/laws.FnExactPairOfForest", spec := "fnExactPairOfForest", inPlace := ["internal/bytealg.CountString", "internal/bytealg.IndexByteString", "internal/bytealg.IndexString", "internal/abi.NoEscape", "internal/bytealg.MakeNoZero"], unfollowed := true, recurses := true, named := ["internal/bytealg.MaxLen"], apart := false }
def FnExactPairOfForestSaid : Prop := fnExactPairOfForestRow.holds Try.pinned (OpenSpec.ofChange fnExactPairOfForestSpec)

/-- ITS FALSE NEIGHBOUR: 'it returns false'. Refute it at one input. -/
def fnExactPairOfForestWrong : ChangeSpec := { name := "fnExactPairOfForest", fn := fun _ => fun
  | [d] => { results := [.lit (.bool false)], args := [d] }
  | _ => none }
def FnExactPairOfForestWrongFalsely : Prop := fnExactPairOfForestRow.holds Try.pinned (OpenSpec.ofChange fnExactPairOfForestWrong)

/-- 'laws.FnExactStackForests': WHATEVER THE INPUT: true; the input reads as it did. -/
def fnExactStackForestsSpec : ChangeSpec := { name := "fnExactStackForests", fn := fun _ => fun
  | [d1, d2] => { results := [.lit (.bool true)], args := [d1, d2] }
  | _ => none }
def fnExactStackForestsRow : OpenClaim := { program := "ytplmbdljhgicfaa", sum := "b21ae3cbf7a5917ad2959e0d0d9c3a24786976c8793c441546175d376a441a36", func := "loop.example/g01161/laws.FnExactStackForests", spec := "fnExactStackForests", inPlace := ["internal/bytealg.CountString", "internal/bytealg.IndexByteString", "internal/bytealg.IndexString", "internal/abi.NoEscape"], unfollowed := true, recurses := true, named := ["internal/bytealg.MaxLen"], apart := false }
def FnExactStackForestsSaid : Prop := fnExactStackForestsRow.holds Try.pinned (OpenSpec.ofChange fnExactStackForestsSpec)

/-- ITS FALSE NEIGHBOUR: 'it returns false'. Refute it at one input. -/
def fnExactStackForestsWrong : ChangeSpec := { name := "fnExactStackForests", fn := fun _ => fun
  | [d1, d2] => { results := [.lit (.bool false)], args := [d1, d2] }
  | _ => none }
def FnExactStackForestsWrongFalsely : Prop := fnExactStackForestsRow.holds Try.pinned (OpenSpec.ofChange fnExactStackForestsWrong)

/- THE SECOND FORM. 'bulk': how many values and letters a reading holds, each counted each time it is reached (what is shared counts as often as it is met; a slice's spare places count too). A statement '..UptoSaid' is the law's where the arguments, and the package variables that the reading takes, are together of bulk at most 1048576: NARROWER than '..Said'. Prove '..Said' where nothing that the law and all that it calls make is longer than what came in: it says more and counts as full. Else prove '..UptoSaid'. A law counts once. -/
mutual
def uptoBulk {H : Type} : DataW H → Nat
  | .lit (.string bytes) => bytes.length + 1
  | .lit _ => 1
  | .nil => 1
  | .ptr d => uptoBulk d + 1
  | .slice elems spare => uptoBulkAll elems + uptoBulkAll spare + 1
  | .agg parts => uptoBulkAll parts + 1
  | .iface _ d => uptoBulk d + 1
  | .map entries => uptoBulkEntries entries + 1
  | .held _ => 1
def uptoBulkAll {H : Type} : List (DataW H) → Nat
  | [] => 0
  | d :: r => uptoBulk d + uptoBulkAll r
def uptoBulkEntries {H : Type} : List (Lit × DataW H) → Nat
  | [] => 0
  | x :: r => uptoBulkEntry x + uptoBulkEntries r
def uptoBulkEntry {H : Type} : Lit × DataW H → Nat
  | (.string bytes, d) => bytes.length + uptoBulk d + 1
  | (_, d) => uptoBulk d + 1
 end
def uptoSmall : (H : Type) → List (DataW H) → Bool := fun _ ds => decide (uptoBulkAll ds ≤ 1048576)
def OpenSpec.upto (s : _root_.Go.ChangeSpec) : _root_.Go.OpenSpec := { _root_.Go.OpenSpec.ofChange s with cond := some uptoSmall }

/-- 'laws.FnExactIsForest', WHERE WHAT IT READS IS OF BULK AT MOST 1048576: true; the input reads as it did. -/
def fnExactIsForestUptoRow : OpenClaim := { program := "ytplmbdljhgicfaa", sum := "b21ae3cbf7a5917ad2959e0d0d9c3a24786976c8793c441546175d376a441a36", func := "loop.example/g01161/laws.FnExactIsForest", spec := "fnExactIsForest", inPlace := ["internal/bytealg.CountString", "internal/bytealg.IndexByteString", "internal/bytealg.IndexString"], unfollowed := true, recurses := true, named := ["internal/bytealg.MaxLen"], apart := false, narrowed := true }
def FnExactIsForestUptoSaid : Prop := fnExactIsForestUptoRow.holds Try.pinned (OpenSpec.upto fnExactIsForestSpec)

/-- 'laws.FnExactLeavesOfForest', WHERE WHAT IT READS IS OF BULK AT MOST 1048576: true; the input reads as it did. -/
def fnExactLeavesOfForestUptoRow : OpenClaim := { program := "ytplmbdljhgicfaa", sum := "b21ae3cbf7a5917ad2959e0d0d9c3a24786976c8793c441546175d376a441a36", func := "loop.example/g01161/laws.FnExactLeavesOfForest", spec := "fnExactLeavesOfForest", inPlace := ["internal/bytealg.CountString", "internal/bytealg.IndexByteString", "internal/bytealg.IndexString"], unfollowed := true, recurses := true, named := ["internal/bytealg.MaxLen"], apart := false, narrowed := true }
def FnExactLeavesOfForestUptoSaid : Prop := fnExactLeavesOfForestUptoRow.holds Try.pinned (OpenSpec.upto fnExactLeavesOfForestSpec)

/-- 'laws.FnExactCountForestCarets', WHERE WHAT IT READS IS OF BULK AT MOST 1048576: true; the input reads as it did. -/
def fnExactCountForestCaretsUptoRow : OpenClaim := { program := "ytplmbdljhgicfaa", sum := "b21ae3cbf7a5917ad2959e0d0d9c3a24786976c8793c441546175d376a441a36", func := "loop.example/g01161/laws.FnExactCountForestCarets", spec := "fnExactCountForestCarets", inPlace := ["internal/bytealg.CountString", "internal/bytealg.IndexByteString", "internal/bytealg.IndexString"], unfollowed := true, recurses := true, named := ["internal/bytealg.MaxLen"], apart := false, narrowed := true }
def FnExactCountForestCaretsUptoSaid : Prop := fnExactCountForestCaretsUptoRow.holds Try.pinned (OpenSpec.upto fnExactCountForestCaretsSpec)

/-- 'laws.FnExactForestText', WHERE WHAT IT READS IS OF BULK AT MOST 1048576: true; the input reads as it did. -/
def fnExactForestTextUptoRow : OpenClaim := { program := "ytplmbdljhgicfaa", sum := "b21ae3cbf7a5917ad2959e0d0d9c3a24786976c8793c441546175d376a441a36", func := "loop.example/g01161/laws.FnExactForestText", spec := "fnExactForestText", inPlace := ["internal/bytealg.CountString", "internal/bytealg.IndexByteString", "internal/bytealg.IndexString", "internal/abi.NoEscape", "internal/bytealg.MakeNoZero"], unfollowed := true, recurses := true, named := ["internal/bytealg.MaxLen"], apart := false, narrowed := true }
def FnExactForestTextUptoSaid : Prop := fnExactForestTextUptoRow.holds Try.pinned (OpenSpec.upto fnExactForestTextSpec)

/-- 'laws.FnExactIsPartOfForest', WHERE WHAT IT READS IS OF BULK AT MOST 1048576: true; the input reads as it did. -/
def fnExactIsPartOfForestUptoRow : OpenClaim := { program := "ytplmbdljhgicfaa", sum := "b21ae3cbf7a5917ad2959e0d0d9c3a24786976c8793c441546175d376a441a36", func := "loop.example/g01161/laws.FnExactIsPartOfForest", spec := "fnExactIsPartOfForest", inPlace := ["internal/bytealg.CountString", "internal/bytealg.IndexByteString", "internal/bytealg.IndexString"], unfollowed := true, recurses := true, named := ["internal/bytealg.MaxLen"], apart := false, narrowed := true }
def FnExactIsPartOfForestUptoSaid : Prop := fnExactIsPartOfForestUptoRow.holds Try.pinned (OpenSpec.upto fnExactIsPartOfForestSpec)

/-- 'laws.FnExactJoinForests', WHERE WHAT IT READS IS OF BULK AT MOST 1048576: true; the input reads as it did. -/
def fnExactJoinForestsUptoRow : OpenClaim := { program := "ytplmbdljhgicfaa", sum := "b21ae3cbf7a5917ad2959e0d0d9c3a24786976c8793c441546175d376a441a36", func := "loop.example/g01161/laws.FnExactJoinForests", spec := "fnExactJoinForests", inPlace := ["internal/bytealg.CountString", "internal/bytealg.IndexByteString", "internal/bytealg.IndexString"], unfollowed := true, recurses := true, named := ["internal/bytealg.MaxLen"], apart := false, narrowed := true }
def FnExactJoinForestsUptoSaid : Prop := fnExactJoinForestsUptoRow.holds Try.pinned (OpenSpec.upto fnExactJoinForestsSpec)

/-- 'laws.FnExactCommonForest', WHERE WHAT IT READS IS OF BULK AT MOST 1048576: true; the input reads as it did. -/
def fnExactCommonForestUptoRow : OpenClaim := { program := "ytplmbdljhgicfaa", sum := "b21ae3cbf7a5917ad2959e0d0d9c3a24786976c8793c441546175d376a441a36", func := "loop.example/g01161/laws.FnExactCommonForest", spec := "fnExactCommonForest", inPlace := ["internal/bytealg.CountString", "internal/bytealg.IndexByteString", "internal/bytealg.IndexString"], unfollowed := true, recurses := true, named := ["internal/bytealg.MaxLen"], apart := false, narrowed := true }
def FnExactCommonForestUptoSaid : Prop := fnExactCommonForestUptoRow.holds Try.pinned (OpenSpec.upto fnExactCommonForestSpec)

/-- 'laws.FnExactForestsOfPair', WHERE WHAT IT READS IS OF BULK AT MOST 1048576: true; the input reads as it did. -/
def fnExactForestsOfPairUptoRow : OpenClaim := { program := "ytplmbdljhgicfaa", sum := "b21ae3cbf7a5917ad2959e0d0d9c3a24786976c8793c441546175d376a441a36", func := "loop.example/g01161/laws.FnExactForestsOfPair", spec := "fnExactForestsOfPair", inPlace := ["internal/bytealg.CountString", "internal/bytealg.IndexByteString", "internal/bytealg.IndexString"], unfollowed := true, recurses := true, named := ["internal/bytealg.MaxLen"], apart := false, narrowed := true }
def FnExactForestsOfPairUptoSaid : Prop := fnExactForestsOfPairUptoRow.holds Try.pinned (OpenSpec.upto fnExactForestsOfPairSpec)

/-- 'laws.FnExactPairOfForest', WHERE WHAT IT READS IS OF BULK AT MOST 1048576: true; the input reads as it did. -/
def fnExactPairOfForestUptoRow : OpenClaim := { program := "ytplmbdljhgicfaa", sum := "b21ae3cbf7a5917ad2959e0d0d9c3a24786976c8793c441546175d376a441a36", func := "loop.example/g01161/laws.FnExactPairOfForest", spec := "fnExactPairOfForest", inPlace := ["internal/bytealg.CountString", "internal/bytealg.IndexByteString", "internal/bytealg.IndexString", "internal/abi.NoEscape", "internal/bytealg.MakeNoZero"], unfollowed := true, recurses := true, named := ["internal/bytealg.MaxLen"], apart := false, narrowed := true }
def FnExactPairOfForestUptoSaid : Prop := fnExactPairOfForestUptoRow.holds Try.pinned (OpenSpec.upto fnExactPairOfForestSpec)

/-- 'laws.FnExactStackForests', WHERE WHAT IT READS IS OF BULK AT MOST 1048576: true; the input reads as it did. -/
def fnExactStackForestsUptoRow : OpenClaim := { program := "ytplmbdljhgicfaa", sum := "b21ae3cbf7a5917ad2959e0d0d9c3a24786976c8793c441546175d376a441a36", func := "loop.example/g01161/laws.FnExactStackForests", spec := "fnExactStackForests", inPlace := ["internal/bytealg.CountString", "internal/bytealg.IndexByteString", "internal/bytealg.IndexString", "internal/abi.NoEscape"], unfollowed := true, recurses := true, named := ["internal/bytealg.MaxLen"], apart := false, narrowed := true }
def FnExactStackForestsUptoSaid : Prop := fnExactStackForestsUptoRow.holds Try.pinned (OpenSpec.upto fnExactStackForestsSpec)

end Rows
end Go.Proofs.Ytplmbdljhgicfaa
