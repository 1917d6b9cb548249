/-
  No cell of these rows narrows 'for every input' (looked for: loops, veiled, ifaces, maps, wideKeys, modest, calm, conditions, laid).
  DERIVED. THE GIVEN ROWS OF THIS SEAT. 7 by the template 'for every input the law returns true; each argument reads behind the call as it read before'; 0 by the template 'total and deterministic' (their statements: YtgmjchpcpocpoabTotals.lean).
  GIVEN WITH THE SEED: the statements are not yours to turn. If you find one false, say at which input.
  Laid BY PROGRAM, IN A SANDBOX (cutbox-rows.mjs): the forced cells as the released guide's own fill.sh prints them over the translation 1f6ddea2c6d6cc6a… (all of the seat's roots in one cut). By AI agents, Wed Nov 11 2026. No macro, syntax, notation, axiom, sorry.
-/
import Derived.Test.YtgmjchpcpocpoabChecked
import GoSem.Claim
import GoSem.ClaimJoined
import GoSem.ClaimMapViews
import Derived.JoinedTies
import Derived.KernelRfl
namespace Go.Proofs.Ytgmjchpcpocpoab
/- THE CELL 'sum', in the pinned program and in every row, IS THE sha256 OF THE DUMP (.gsa) THAT YtgmjchpcpocpoabProg.lean LOADS. Nothing in Lean hashes anything: it is a label: what it is worth is what the hold of that sum in a sandbox is worth. -/
noncomputable def Try.pinned : Pinned := { name := "ytgmjchpcpocpoab", sum := "1f6ddea2c6d6cc6ae5322b7f9b2b54cd34d2de64a26f9a2ca099a6abb9fe9986", checked := Try.checked }
namespace Rows
def none {H : Type} : Left H := { results := [], args := [] }

/-- 'laws.FnExactWordOfTwo': WHATEVER THE INPUT: true; the input reads as it did. -/
def fnExactWordOfTwoSpec : ChangeSpec := { name := "fnExactWordOfTwo", fn := fun _ => fun
  | [d] => { results := [.lit (.bool true)], args := [d] }
  | _ => none }
def fnExactWordOfTwoRow : OpenClaim := { program := "ytgmjchpcpocpoab", sum := "1f6ddea2c6d6cc6ae5322b7f9b2b54cd34d2de64a26f9a2ca099a6abb9fe9986", func := "loop.example/g01161/laws.FnExactWordOfTwo", spec := "fnExactWordOfTwo", apart := false }
def FnExactWordOfTwoSaid : Prop := fnExactWordOfTwoRow.holds Try.pinned (OpenSpec.ofChange fnExactWordOfTwoSpec)

/-- ITS FALSE NEIGHBOUR: 'it returns false'. Refute it at one input. -/
def fnExactWordOfTwoWrong : ChangeSpec := { name := "fnExactWordOfTwo", fn := fun _ => fun
  | [d] => { results := [.lit (.bool false)], args := [d] }
  | _ => none }
def FnExactWordOfTwoWrongFalsely : Prop := fnExactWordOfTwoRow.holds Try.pinned (OpenSpec.ofChange fnExactWordOfTwoWrong)

/-- 'laws.FnExactPairOfWord': WHATEVER THE INPUT: true; the input reads as it did. -/
def fnExactPairOfWordSpec : ChangeSpec := { name := "fnExactPairOfWord", fn := fun _ => fun
  | [d] => { results := [.lit (.bool true)], args := [d] }
  | _ => none }
def fnExactPairOfWordRow : OpenClaim := { program := "ytgmjchpcpocpoab", sum := "1f6ddea2c6d6cc6ae5322b7f9b2b54cd34d2de64a26f9a2ca099a6abb9fe9986", func := "loop.example/g01161/laws.FnExactPairOfWord", spec := "fnExactPairOfWord", inPlace := ["internal/bytealg.CountString", "internal/bytealg.IndexByteString", "internal/bytealg.IndexString", "internal/abi.NoEscape"], unfollowed := true, recurses := true, named := ["internal/bytealg.MaxLen"], apart := false }
def FnExactPairOfWordSaid : Prop := fnExactPairOfWordRow.holds Try.pinned (OpenSpec.ofChange fnExactPairOfWordSpec)

/-- ITS FALSE NEIGHBOUR: 'it returns false'. Refute it at one input. -/
def fnExactPairOfWordWrong : ChangeSpec := { name := "fnExactPairOfWord", fn := fun _ => fun
  | [d] => { results := [.lit (.bool false)], args := [d] }
  | _ => none }
def FnExactPairOfWordWrongFalsely : Prop := fnExactPairOfWordRow.holds Try.pinned (OpenSpec.ofChange fnExactPairOfWordWrong)

/-- 'laws.FnExactTreeOfExponents': WHATEVER THE INPUT: true; the input reads as it did. -/
def fnExactTreeOfExponentsSpec : ChangeSpec := { name := "fnExactTreeOfExponents", fn := fun _ => fun
  | [d] => { results := [.lit (.bool true)], args := [d] }
  | _ => none }
def fnExactTreeOfExponentsRow : OpenClaim := { program := "ytgmjchpcpocpoab", sum := "1f6ddea2c6d6cc6ae5322b7f9b2b54cd34d2de64a26f9a2ca099a6abb9fe9986", func := "loop.example/g01161/laws.FnExactTreeOfExponents", spec := "fnExactTreeOfExponents", inPlace := ["internal/bytealg.CountString", "internal/bytealg.IndexByteString", "internal/bytealg.IndexString"], unfollowed := true, recurses := true, named := ["internal/bytealg.MaxLen"], apart := false }
def FnExactTreeOfExponentsSaid : Prop := fnExactTreeOfExponentsRow.holds Try.pinned (OpenSpec.ofChange fnExactTreeOfExponentsSpec)

/-- ITS FALSE NEIGHBOUR: 'it returns false'. Refute it at one input. -/
def fnExactTreeOfExponentsWrong : ChangeSpec := { name := "fnExactTreeOfExponents", fn := fun _ => fun
  | [d] => { results := [.lit (.bool false)], args := [d] }
  | _ => none }
def FnExactTreeOfExponentsWrongFalsely : Prop := fnExactTreeOfExponentsRow.holds Try.pinned (OpenSpec.ofChange fnExactTreeOfExponentsWrong)

/-- 'laws.FnExactAllTrees': WHATEVER THE INPUT: true; the input reads as it did. -/
def fnExactAllTreesSpec : ChangeSpec := { name := "fnExactAllTrees", fn := fun _ => fun
  | [d] => { results := [.lit (.bool true)], args := [d] }
  | _ => none }
def fnExactAllTreesRow : OpenClaim := { program := "ytgmjchpcpocpoab", sum := "1f6ddea2c6d6cc6ae5322b7f9b2b54cd34d2de64a26f9a2ca099a6abb9fe9986", func := "loop.example/g01161/laws.FnExactAllTrees", spec := "fnExactAllTrees", recurses := true, apart := false }
def FnExactAllTreesSaid : Prop := fnExactAllTreesRow.holds Try.pinned (OpenSpec.ofChange fnExactAllTreesSpec)

/-- ITS FALSE NEIGHBOUR: 'it returns false'. Refute it at one input. -/
def fnExactAllTreesWrong : ChangeSpec := { name := "fnExactAllTrees", fn := fun _ => fun
  | [d] => { results := [.lit (.bool false)], args := [d] }
  | _ => none }
def FnExactAllTreesWrongFalsely : Prop := fnExactAllTreesRow.holds Try.pinned (OpenSpec.ofChange fnExactAllTreesWrong)

/-- 'laws.FnExactRankTree': WHATEVER THE INPUT: true; the input reads as it did. -/
def fnExactRankTreeSpec : ChangeSpec := { name := "fnExactRankTree", fn := fun _ => fun
  | [d] => { results := [.lit (.bool true)], args := [d] }
  | _ => none }
def fnExactRankTreeRow : OpenClaim := { program := "ytgmjchpcpocpoab", sum := "1f6ddea2c6d6cc6ae5322b7f9b2b54cd34d2de64a26f9a2ca099a6abb9fe9986", func := "loop.example/g01161/laws.FnExactRankTree", spec := "fnExactRankTree", inPlace := ["internal/bytealg.CountString", "internal/bytealg.IndexByteString", "internal/bytealg.IndexString"], recurses := true, named := ["internal/bytealg.MaxLen"], apart := false }
def FnExactRankTreeSaid : Prop := fnExactRankTreeRow.holds Try.pinned (OpenSpec.ofChange fnExactRankTreeSpec)

/-- ITS FALSE NEIGHBOUR: 'it returns false'. Refute it at one input. -/
def fnExactRankTreeWrong : ChangeSpec := { name := "fnExactRankTree", fn := fun _ => fun
  | [d] => { results := [.lit (.bool false)], args := [d] }
  | _ => none }
def FnExactRankTreeWrongFalsely : Prop := fnExactRankTreeRow.holds Try.pinned (OpenSpec.ofChange fnExactRankTreeWrong)

/-- 'laws.FnExactTreeAt': WHATEVER THE INPUT: true; the input reads as it did. -/
def fnExactTreeAtSpec : ChangeSpec := { name := "fnExactTreeAt", fn := fun _ => fun
  | [d1, d2] => { results := [.lit (.bool true)], args := [d1, d2] }
  | _ => none }
def fnExactTreeAtRow : OpenClaim := { program := "ytgmjchpcpocpoab", sum := "1f6ddea2c6d6cc6ae5322b7f9b2b54cd34d2de64a26f9a2ca099a6abb9fe9986", func := "loop.example/g01161/laws.FnExactTreeAt", spec := "fnExactTreeAt", recurses := true, apart := false }
def FnExactTreeAtSaid : Prop := fnExactTreeAtRow.holds Try.pinned (OpenSpec.ofChange fnExactTreeAtSpec)

/-- ITS FALSE NEIGHBOUR: 'it returns false'. Refute it at one input. -/
def fnExactTreeAtWrong : ChangeSpec := { name := "fnExactTreeAt", fn := fun _ => fun
  | [d1, d2] => { results := [.lit (.bool false)], args := [d1, d2] }
  | _ => none }
def FnExactTreeAtWrongFalsely : Prop := fnExactTreeAtRow.holds Try.pinned (OpenSpec.ofChange fnExactTreeAtWrong)

/-- 'laws.FnExactCountReduced': WHATEVER THE INPUT: true; the input reads as it did. -/
def fnExactCountReducedSpec : ChangeSpec := { name := "fnExactCountReduced", fn := fun _ => fun
  | [d] => { results := [.lit (.bool true)], args := [d] }
  | _ => none }
def fnExactCountReducedRow : OpenClaim := { program := "ytgmjchpcpocpoab", sum := "1f6ddea2c6d6cc6ae5322b7f9b2b54cd34d2de64a26f9a2ca099a6abb9fe9986", func := "loop.example/g01161/laws.FnExactCountReduced", spec := "fnExactCountReduced", recurses := true, apart := false }
def FnExactCountReducedSaid : Prop := fnExactCountReducedRow.holds Try.pinned (OpenSpec.ofChange fnExactCountReducedSpec)

/-- ITS FALSE NEIGHBOUR: 'it returns false'. Refute it at one input. -/
def fnExactCountReducedWrong : ChangeSpec := { name := "fnExactCountReduced", fn := fun _ => fun
  | [d] => { results := [.lit (.bool false)], args := [d] }
  | _ => none }
def FnExactCountReducedWrongFalsely : Prop := fnExactCountReducedRow.holds Try.pinned (OpenSpec.ofChange fnExactCountReducedWrong)

/- THE SECOND FORM. 'bulk': how many values and letters a reading holds, each counted each time it is reached (what is shared counts as often as it is met; a slice's spare places count too). A statement '..UptoSaid' is the law's where the arguments, and the package variables that the reading takes, are together of bulk at most 1048576: NARROWER than '..Said'. Prove '..Said' where nothing that the law and all that it calls make is longer than what came in: it says more and counts as full. Else prove '..UptoSaid'. A law counts once. -/
mutual
def uptoBulk {H : Type} : DataW H → Nat
  | .lit (.string bytes) => bytes.length + 1
  | .lit _ => 1
  | .nil => 1
  | .ptr d => uptoBulk d + 1
  | .slice elems spare => uptoBulkAll elems + uptoBulkAll spare + 1
  | .agg parts => uptoBulkAll parts + 1
  | .iface _ d => uptoBulk d + 1
  | .map entries => uptoBulkEntries entries + 1
  | .held _ => 1
def uptoBulkAll {H : Type} : List (DataW H) → Nat
  | [] => 0
  | d :: r => uptoBulk d + uptoBulkAll r
def uptoBulkEntries {H : Type} : List (Lit × DataW H) → Nat
  | [] => 0
  | x :: r => uptoBulkEntry x + uptoBulkEntries r
def uptoBulkEntry {H : Type} : Lit × DataW H → Nat
  | (.string bytes, d) => bytes.length + uptoBulk d + 1
  | (_, d) => uptoBulk d + 1
 end
def uptoSmall : (H : Type) → List (DataW H) → Bool := fun _ ds => decide (uptoBulkAll ds ≤ 1048576)
def OpenSpec.upto (s : _root_.Go.ChangeSpec) : _root_.Go.OpenSpec := { _root_.Go.OpenSpec.ofChange s with cond := some uptoSmall }

/-- 'laws.FnExactWordOfTwo', WHERE WHAT IT READS IS OF BULK AT MOST 1048576: true; the input reads as it did. -/
def fnExactWordOfTwoUptoRow : OpenClaim := { program := "ytgmjchpcpocpoab", sum := "1f6ddea2c6d6cc6ae5322b7f9b2b54cd34d2de64a26f9a2ca099a6abb9fe9986", func := "loop.example/g01161/laws.FnExactWordOfTwo", spec := "fnExactWordOfTwo", apart := false, narrowed := true }
def FnExactWordOfTwoUptoSaid : Prop := fnExactWordOfTwoUptoRow.holds Try.pinned (OpenSpec.upto fnExactWordOfTwoSpec)

/-- 'laws.FnExactPairOfWord', WHERE WHAT IT READS IS OF BULK AT MOST 1048576: true; the input reads as it did. -/
def fnExactPairOfWordUptoRow : OpenClaim := { program := "ytgmjchpcpocpoab", sum := "1f6ddea2c6d6cc6ae5322b7f9b2b54cd34d2de64a26f9a2ca099a6abb9fe9986", func := "loop.example/g01161/laws.FnExactPairOfWord", spec := "fnExactPairOfWord", inPlace := ["internal/bytealg.CountString", "internal/bytealg.IndexByteString", "internal/bytealg.IndexString", "internal/abi.NoEscape"], unfollowed := true, recurses := true, named := ["internal/bytealg.MaxLen"], apart := false, narrowed := true }
def FnExactPairOfWordUptoSaid : Prop := fnExactPairOfWordUptoRow.holds Try.pinned (OpenSpec.upto fnExactPairOfWordSpec)

/-- 'laws.FnExactTreeOfExponents', WHERE WHAT IT READS IS OF BULK AT MOST 1048576: true; the input reads as it did. -/
def fnExactTreeOfExponentsUptoRow : OpenClaim := { program := "ytgmjchpcpocpoab", sum := "1f6ddea2c6d6cc6ae5322b7f9b2b54cd34d2de64a26f9a2ca099a6abb9fe9986", func := "loop.example/g01161/laws.FnExactTreeOfExponents", spec := "fnExactTreeOfExponents", inPlace := ["internal/bytealg.CountString", "internal/bytealg.IndexByteString", "internal/bytealg.IndexString"], unfollowed := true, recurses := true, named := ["internal/bytealg.MaxLen"], apart := false, narrowed := true }
def FnExactTreeOfExponentsUptoSaid : Prop := fnExactTreeOfExponentsUptoRow.holds Try.pinned (OpenSpec.upto fnExactTreeOfExponentsSpec)

/-- 'laws.FnExactAllTrees', WHERE WHAT IT READS IS OF BULK AT MOST 1048576: true; the input reads as it did. -/
def fnExactAllTreesUptoRow : OpenClaim := { program := "ytgmjchpcpocpoab", sum := "1f6ddea2c6d6cc6ae5322b7f9b2b54cd34d2de64a26f9a2ca099a6abb9fe9986", func := "loop.example/g01161/laws.FnExactAllTrees", spec := "fnExactAllTrees", recurses := true, apart := false, narrowed := true }
def FnExactAllTreesUptoSaid : Prop := fnExactAllTreesUptoRow.holds Try.pinned (OpenSpec.upto fnExactAllTreesSpec)

/-- 'laws.FnExactRankTree', WHERE WHAT IT READS IS OF BULK AT MOST 1048576: true; the input reads as it did. -/
def fnExactRankTreeUptoRow : OpenClaim := { program := "ytgmjchpcpocpoab", sum := "1f6ddea2c6d6cc6ae5322b7f9b2b54cd34d2de64a26f9a2ca099a6abb9fe9986", func := "loop.example/g01161/laws.FnExactRankTree", spec := "fnExactRankTree", inPlace := ["internal/bytealg.CountString", "internal/bytealg.IndexByteString", "internal/bytealg.IndexString"], recurses := true, named := ["internal/bytealg.MaxLen"], apart := false, narrowed := true }
def FnExactRankTreeUptoSaid : Prop := fnExactRankTreeUptoRow.holds Try.pinned (OpenSpec.upto fnExactRankTreeSpec)

/-- 'laws.FnExactTreeAt', WHERE WHAT IT READS IS OF BULK AT MOST 1048576: true; the input reads as it did. -/
def fnExactTreeAtUptoRow : OpenClaim := { program := "ytgmjchpcpocpoab", sum := "1f6ddea2c6d6cc6ae5322b7f9b2b54cd34d2de64a26f9a2ca099a6abb9fe9986", func := "loop.example/g01161/laws.FnExactTreeAt", spec := "fnExactTreeAt", recurses := true, apart := false, narrowed := true }
def FnExactTreeAtUptoSaid : Prop := fnExactTreeAtUptoRow.holds Try.pinned (OpenSpec.upto fnExactTreeAtSpec)

/-- 'laws.FnExactCountReduced', WHERE WHAT IT READS IS OF BULK AT MOST 1048576: true; the input reads as it did. -/
def fnExactCountReducedUptoRow : OpenClaim := { program := "ytgmjchpcpocpoab", sum := "1f6ddea2c6d6cc6ae5322b7f9b2b54cd34d2de64a26f9a2ca099a6abb9fe9986", func := "loop.example/g01161/laws.FnExactCountReduced", spec := "fnExactCountReduced", recurses := true, apart := false, narrowed := true }
def FnExactCountReducedUptoSaid : Prop := fnExactCountReducedUptoRow.holds Try.pinned (OpenSpec.upto fnExactCountReducedSpec)

end Rows
end Go.Proofs.Ytgmjchpcpocpoab
