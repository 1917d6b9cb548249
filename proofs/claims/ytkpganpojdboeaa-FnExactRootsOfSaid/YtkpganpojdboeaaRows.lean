/-
  No cell of these rows narrows 'for every input' (looked for: loops, veiled, ifaces, maps, wideKeys, modest, calm, conditions, laid).
  DERIVED. THE GIVEN ROWS OF THIS SEAT. 10 by the template 'for every input the law returns true; each argument reads behind the call as it read before'; 0 by the template 'total and deterministic' (their statements: YtkpganpojdboeaaTotals.lean).
  GIVEN WITH THE SEED: the statements are not yours to turn. If you find one false, say at which input.
  Laid BY PROGRAM, IN A SANDBOX (cutbox-rows.mjs): the forced cells as the released guide's own fill.sh prints them over the translation dfbef4a5cc9168e5… (all of the seat's roots in one cut). By AI agents, Wed Nov 11 2026. No macro, syntax, notation, axiom, sorry.
-/
import Derived.Test.YtkpganpojdboeaaChecked
import GoSem.Claim
import GoSem.ClaimJoined
import GoSem.ClaimMapViews
import Derived.JoinedTies
import Derived.KernelRfl
namespace Go.Proofs.Ytkpganpojdboeaa
/- THE CELL 'sum', in the pinned program and in every row, IS THE sha256 OF THE DUMP (.gsa) THAT YtkpganpojdboeaaProg.lean LOADS. Nothing in Lean hashes anything: it is a label: what it is worth is what the hold of that sum in a sandbox is worth. -/
noncomputable def Try.pinned : Pinned := { name := "ytkpganpojdboeaa", sum := "dfbef4a5cc9168e579e017ab87c832c69325f5059b51c1d28b7e6725917675c5", checked := Try.checked }
namespace Rows
def none {H : Type} : Left H := { results := [], args := [] }

/-- 'laws.FnExactConjugatePair': WHATEVER THE INPUT: true; the input reads as it did. -/
def fnExactConjugatePairSpec : ChangeSpec := { name := "fnExactConjugatePair", fn := fun _ => fun
  | [d1, d2] => { results := [.lit (.bool true)], args := [d1, d2] }
  | _ => none }
def fnExactConjugatePairRow : OpenClaim := { program := "ytkpganpojdboeaa", sum := "dfbef4a5cc9168e579e017ab87c832c69325f5059b51c1d28b7e6725917675c5", func := "loop.example/g01161/laws.FnExactConjugatePair", spec := "fnExactConjugatePair", inPlace := ["internal/bytealg.CountString", "internal/bytealg.IndexByteString", "internal/bytealg.IndexString", "internal/abi.NoEscape"], unfollowed := true, recurses := true, named := ["internal/bytealg.MaxLen"], plainKeys := false, apart := false }
def FnExactConjugatePairSaid : Prop := fnExactConjugatePairRow.holds Try.pinned (OpenSpec.ofChange fnExactConjugatePairSpec)

/-- ITS FALSE NEIGHBOUR: 'it returns false'. Refute it at one input. -/
def fnExactConjugatePairWrong : ChangeSpec := { name := "fnExactConjugatePair", fn := fun _ => fun
  | [d1, d2] => { results := [.lit (.bool false)], args := [d1, d2] }
  | _ => none }
def FnExactConjugatePairWrongFalsely : Prop := fnExactConjugatePairRow.holds Try.pinned (OpenSpec.ofChange fnExactConjugatePairWrong)

/-- 'laws.FnExactFindConjugator': WHATEVER THE INPUT: true; the input reads as it did. -/
def fnExactFindConjugatorSpec : ChangeSpec := { name := "fnExactFindConjugator", fn := fun _ => fun
  | [d1, d2, d3] => { results := [.lit (.bool true)], args := [d1, d2, d3] }
  | _ => none }
def fnExactFindConjugatorRow : OpenClaim := { program := "ytkpganpojdboeaa", sum := "dfbef4a5cc9168e579e017ab87c832c69325f5059b51c1d28b7e6725917675c5", func := "loop.example/g01161/laws.FnExactFindConjugator", spec := "fnExactFindConjugator", inPlace := ["internal/bytealg.CountString", "internal/bytealg.IndexByteString", "internal/bytealg.IndexString", "internal/abi.NoEscape"], unfollowed := true, recurses := true, named := ["internal/bytealg.MaxLen"], plainKeys := false, apart := false }
def FnExactFindConjugatorSaid : Prop := fnExactFindConjugatorRow.holds Try.pinned (OpenSpec.ofChange fnExactFindConjugatorSpec)

/-- ITS FALSE NEIGHBOUR: 'it returns false'. Refute it at one input. -/
def fnExactFindConjugatorWrong : ChangeSpec := { name := "fnExactFindConjugator", fn := fun _ => fun
  | [d1, d2, d3] => { results := [.lit (.bool false)], args := [d1, d2, d3] }
  | _ => none }
def FnExactFindConjugatorWrongFalsely : Prop := fnExactFindConjugatorRow.holds Try.pinned (OpenSpec.ofChange fnExactFindConjugatorWrong)

/-- 'laws.FnExactAreConjugateWithin': WHATEVER THE INPUT: true; the input reads as it did. -/
def fnExactAreConjugateWithinSpec : ChangeSpec := { name := "fnExactAreConjugateWithin", fn := fun _ => fun
  | [d1, d2, d3] => { results := [.lit (.bool true)], args := [d1, d2, d3] }
  | _ => none }
def fnExactAreConjugateWithinRow : OpenClaim := { program := "ytkpganpojdboeaa", sum := "dfbef4a5cc9168e579e017ab87c832c69325f5059b51c1d28b7e6725917675c5", func := "loop.example/g01161/laws.FnExactAreConjugateWithin", spec := "fnExactAreConjugateWithin", inPlace := ["internal/bytealg.CountString", "internal/bytealg.IndexByteString", "internal/bytealg.IndexString", "internal/abi.NoEscape"], unfollowed := true, recurses := true, named := ["internal/bytealg.MaxLen"], plainKeys := false, apart := false }
def FnExactAreConjugateWithinSaid : Prop := fnExactAreConjugateWithinRow.holds Try.pinned (OpenSpec.ofChange fnExactAreConjugateWithinSpec)

/-- ITS FALSE NEIGHBOUR: 'it returns false'. Refute it at one input. -/
def fnExactAreConjugateWithinWrong : ChangeSpec := { name := "fnExactAreConjugateWithin", fn := fun _ => fun
  | [d1, d2, d3] => { results := [.lit (.bool false)], args := [d1, d2, d3] }
  | _ => none }
def FnExactAreConjugateWithinWrongFalsely : Prop := fnExactAreConjugateWithinRow.holds Try.pinned (OpenSpec.ofChange fnExactAreConjugateWithinWrong)

/-- 'laws.FnExactShiftPair': WHATEVER THE INPUT: true; the input reads as it did. -/
def fnExactShiftPairSpec : ChangeSpec := { name := "fnExactShiftPair", fn := fun _ => fun
  | [d] => { results := [.lit (.bool true)], args := [d] }
  | _ => none }
def fnExactShiftPairRow : OpenClaim := { program := "ytkpganpojdboeaa", sum := "dfbef4a5cc9168e579e017ab87c832c69325f5059b51c1d28b7e6725917675c5", func := "loop.example/g01161/laws.FnExactShiftPair", spec := "fnExactShiftPair", inPlace := ["internal/bytealg.CountString", "internal/bytealg.IndexByteString", "internal/bytealg.IndexString"], unfollowed := true, recurses := true, named := ["internal/bytealg.MaxLen"], plainKeys := false, apart := false }
def FnExactShiftPairSaid : Prop := fnExactShiftPairRow.holds Try.pinned (OpenSpec.ofChange fnExactShiftPairSpec)

/-- ITS FALSE NEIGHBOUR: 'it returns false'. Refute it at one input. -/
def fnExactShiftPairWrong : ChangeSpec := { name := "fnExactShiftPair", fn := fun _ => fun
  | [d] => { results := [.lit (.bool false)], args := [d] }
  | _ => none }
def FnExactShiftPairWrongFalsely : Prop := fnExactShiftPairRow.holds Try.pinned (OpenSpec.ofChange fnExactShiftPairWrong)

/-- 'laws.FnExactHalvesPair': WHATEVER THE INPUT: true; the input reads as it did. -/
def fnExactHalvesPairSpec : ChangeSpec := { name := "fnExactHalvesPair", fn := fun _ => fun
  | [d1, d2] => { results := [.lit (.bool true)], args := [d1, d2] }
  | _ => none }
def fnExactHalvesPairRow : OpenClaim := { program := "ytkpganpojdboeaa", sum := "dfbef4a5cc9168e579e017ab87c832c69325f5059b51c1d28b7e6725917675c5", func := "loop.example/g01161/laws.FnExactHalvesPair", spec := "fnExactHalvesPair", inPlace := ["internal/bytealg.CountString", "internal/bytealg.IndexByteString", "internal/bytealg.IndexString"], unfollowed := true, recurses := true, named := ["internal/bytealg.MaxLen"], plainKeys := false, apart := false }
def FnExactHalvesPairSaid : Prop := fnExactHalvesPairRow.holds Try.pinned (OpenSpec.ofChange fnExactHalvesPairSpec)

/-- ITS FALSE NEIGHBOUR: 'it returns false'. Refute it at one input. -/
def fnExactHalvesPairWrong : ChangeSpec := { name := "fnExactHalvesPair", fn := fun _ => fun
  | [d1, d2] => { results := [.lit (.bool false)], args := [d1, d2] }
  | _ => none }
def FnExactHalvesPairWrongFalsely : Prop := fnExactHalvesPairRow.holds Try.pinned (OpenSpec.ofChange fnExactHalvesPairWrong)

/-- 'laws.FnExactSplitHalves': WHATEVER THE INPUT: true; the input reads as it did. -/
def fnExactSplitHalvesSpec : ChangeSpec := { name := "fnExactSplitHalves", fn := fun _ => fun
  | [d] => { results := [.lit (.bool true)], args := [d] }
  | _ => none }
def fnExactSplitHalvesRow : OpenClaim := { program := "ytkpganpojdboeaa", sum := "dfbef4a5cc9168e579e017ab87c832c69325f5059b51c1d28b7e6725917675c5", func := "loop.example/g01161/laws.FnExactSplitHalves", spec := "fnExactSplitHalves", inPlace := ["internal/bytealg.CountString", "internal/bytealg.IndexByteString", "internal/bytealg.IndexString"], unfollowed := true, recurses := true, named := ["internal/bytealg.MaxLen"], plainKeys := false, apart := false }
def FnExactSplitHalvesSaid : Prop := fnExactSplitHalvesRow.holds Try.pinned (OpenSpec.ofChange fnExactSplitHalvesSpec)

/-- ITS FALSE NEIGHBOUR: 'it returns false'. Refute it at one input. -/
def fnExactSplitHalvesWrong : ChangeSpec := { name := "fnExactSplitHalves", fn := fun _ => fun
  | [d] => { results := [.lit (.bool false)], args := [d] }
  | _ => none }
def FnExactSplitHalvesWrongFalsely : Prop := fnExactSplitHalvesRow.holds Try.pinned (OpenSpec.ofChange fnExactSplitHalvesWrong)

/-- 'laws.FnExactSmallPairs': WHATEVER THE INPUT: true; the input reads as it did. -/
def fnExactSmallPairsSpec : ChangeSpec := { name := "fnExactSmallPairs", fn := fun _ => fun
  | [d] => { results := [.lit (.bool true)], args := [d] }
  | _ => none }
def fnExactSmallPairsRow : OpenClaim := { program := "ytkpganpojdboeaa", sum := "dfbef4a5cc9168e579e017ab87c832c69325f5059b51c1d28b7e6725917675c5", func := "loop.example/g01161/laws.FnExactSmallPairs", spec := "fnExactSmallPairs", unfollowed := true, recurses := true, plainKeys := false, apart := false }
def FnExactSmallPairsSaid : Prop := fnExactSmallPairsRow.holds Try.pinned (OpenSpec.ofChange fnExactSmallPairsSpec)

/-- ITS FALSE NEIGHBOUR: 'it returns false'. Refute it at one input. -/
def fnExactSmallPairsWrong : ChangeSpec := { name := "fnExactSmallPairs", fn := fun _ => fun
  | [d] => { results := [.lit (.bool false)], args := [d] }
  | _ => none }
def FnExactSmallPairsWrongFalsely : Prop := fnExactSmallPairsRow.holds Try.pinned (OpenSpec.ofChange fnExactSmallPairsWrong)

/-- 'laws.FnExactRootsOf': WHATEVER THE INPUT: true; the input reads as it did. -/
def fnExactRootsOfSpec : ChangeSpec := { name := "fnExactRootsOf", fn := fun _ => fun
  | [d1, d2] => { results := [.lit (.bool true)], args := [d1, d2] }
  | _ => none }
def fnExactRootsOfRow : OpenClaim := { program := "ytkpganpojdboeaa", sum := "dfbef4a5cc9168e579e017ab87c832c69325f5059b51c1d28b7e6725917675c5", func := "loop.example/g01161/laws.FnExactRootsOf", spec := "fnExactRootsOf", inPlace := ["internal/bytealg.CountString", "internal/bytealg.IndexByteString", "internal/bytealg.IndexString", "internal/abi.NoEscape"], unfollowed := true, recurses := true, named := ["internal/bytealg.MaxLen"], plainKeys := false, apart := false }
def FnExactRootsOfSaid : Prop := fnExactRootsOfRow.holds Try.pinned (OpenSpec.ofChange fnExactRootsOfSpec)

/-- ITS FALSE NEIGHBOUR: 'it returns false'. Refute it at one input. -/
def fnExactRootsOfWrong : ChangeSpec := { name := "fnExactRootsOf", fn := fun _ => fun
  | [d1, d2] => { results := [.lit (.bool false)], args := [d1, d2] }
  | _ => none }
def FnExactRootsOfWrongFalsely : Prop := fnExactRootsOfRow.holds Try.pinned (OpenSpec.ofChange fnExactRootsOfWrong)

/-- 'laws.FnExactCommutingWith': WHATEVER THE INPUT: true; the input reads as it did. -/
def fnExactCommutingWithSpec : ChangeSpec := { name := "fnExactCommutingWith", fn := fun _ => fun
  | [d1, d2] => { results := [.lit (.bool true)], args := [d1, d2] }
  | _ => none }
def fnExactCommutingWithRow : OpenClaim := { program := "ytkpganpojdboeaa", sum := "dfbef4a5cc9168e579e017ab87c832c69325f5059b51c1d28b7e6725917675c5", func := "loop.example/g01161/laws.FnExactCommutingWith", spec := "fnExactCommutingWith", inPlace := ["internal/bytealg.CountString", "internal/bytealg.IndexByteString", "internal/bytealg.IndexString", "internal/abi.NoEscape"], unfollowed := true, recurses := true, named := ["internal/bytealg.MaxLen"], plainKeys := false, apart := false }
def FnExactCommutingWithSaid : Prop := fnExactCommutingWithRow.holds Try.pinned (OpenSpec.ofChange fnExactCommutingWithSpec)

/-- ITS FALSE NEIGHBOUR: 'it returns false'. Refute it at one input. -/
def fnExactCommutingWithWrong : ChangeSpec := { name := "fnExactCommutingWith", fn := fun _ => fun
  | [d1, d2] => { results := [.lit (.bool false)], args := [d1, d2] }
  | _ => none }
def FnExactCommutingWithWrongFalsely : Prop := fnExactCommutingWithRow.holds Try.pinned (OpenSpec.ofChange fnExactCommutingWithWrong)

/-- 'laws.FnExactConjugateByWord': WHATEVER THE INPUT: true; the input reads as it did. -/
def fnExactConjugateByWordSpec : ChangeSpec := { name := "fnExactConjugateByWord", fn := fun _ => fun
  | [d1, d2] => { results := [.lit (.bool true)], args := [d1, d2] }
  | _ => none }
def fnExactConjugateByWordRow : OpenClaim := { program := "ytkpganpojdboeaa", sum := "dfbef4a5cc9168e579e017ab87c832c69325f5059b51c1d28b7e6725917675c5", func := "loop.example/g01161/laws.FnExactConjugateByWord", spec := "fnExactConjugateByWord", inPlace := ["internal/bytealg.CountString", "internal/bytealg.IndexByteString", "internal/bytealg.IndexString", "internal/abi.NoEscape"], unfollowed := true, recurses := true, named := ["internal/bytealg.MaxLen"], plainKeys := false, apart := false }
def FnExactConjugateByWordSaid : Prop := fnExactConjugateByWordRow.holds Try.pinned (OpenSpec.ofChange fnExactConjugateByWordSpec)

/-- ITS FALSE NEIGHBOUR: 'it returns false'. Refute it at one input. -/
def fnExactConjugateByWordWrong : ChangeSpec := { name := "fnExactConjugateByWord", fn := fun _ => fun
  | [d1, d2] => { results := [.lit (.bool false)], args := [d1, d2] }
  | _ => none }
def FnExactConjugateByWordWrongFalsely : Prop := fnExactConjugateByWordRow.holds Try.pinned (OpenSpec.ofChange fnExactConjugateByWordWrong)

/- THE SECOND FORM. 'bulk': how many values and letters a reading holds, each counted each time it is reached (what is shared counts as often as it is met; a slice's spare places count too). A statement '..UptoSaid' is the law's where the arguments, and the package variables that the reading takes, are together of bulk at most 1048576: NARROWER than '..Said'. Prove '..Said' where nothing that the law and all that it calls make is longer than what came in: it says more and counts as full. Else prove '..UptoSaid'. A law counts once. -/
mutual
def uptoBulk {H : Type} : DataW H → Nat
  | .lit (.string bytes) => bytes.length + 1
  | .lit _ => 1
  | .nil => 1
  | .ptr d => uptoBulk d + 1
  | .slice elems spare => uptoBulkAll elems + uptoBulkAll spare + 1
  | .agg parts => uptoBulkAll parts + 1
  | .iface _ d => uptoBulk d + 1
  | .map entries => uptoBulkEntries entries + 1
  | .held _ => 1
def uptoBulkAll {H : Type} : List (DataW H) → Nat
  | [] => 0
  | d :: r => uptoBulk d + uptoBulkAll r
def uptoBulkEntries {H : Type} : List (Lit × DataW H) → Nat
  | [] => 0
  | x :: r => uptoBulkEntry x + uptoBulkEntries r
def uptoBulkEntry {H : Type} : Lit × DataW H → Nat
  | (.string bytes, d) => bytes.length + uptoBulk d + 1
  | (_, d) => uptoBulk d + 1
 end
def uptoSmall : (H : Type) → List (DataW H) → Bool := fun _ ds => decide (uptoBulkAll ds ≤ 1048576)
def OpenSpec.upto (s : _root_.Go.ChangeSpec) : _root_.Go.OpenSpec := { _root_.Go.OpenSpec.ofChange s with cond := some uptoSmall }

/-- 'laws.FnExactConjugatePair', WHERE WHAT IT READS IS OF BULK AT MOST 1048576: true; the input reads as it did. -/
def fnExactConjugatePairUptoRow : OpenClaim := { program := "ytkpganpojdboeaa", sum := "dfbef4a5cc9168e579e017ab87c832c69325f5059b51c1d28b7e6725917675c5", func := "loop.example/g01161/laws.FnExactConjugatePair", spec := "fnExactConjugatePair", inPlace := ["internal/bytealg.CountString", "internal/bytealg.IndexByteString", "internal/bytealg.IndexString", "internal/abi.NoEscape"], unfollowed := true, recurses := true, named := ["internal/bytealg.MaxLen"], plainKeys := false, apart := false, narrowed := true }
def FnExactConjugatePairUptoSaid : Prop := fnExactConjugatePairUptoRow.holds Try.pinned (OpenSpec.upto fnExactConjugatePairSpec)

/-- 'laws.FnExactFindConjugator', WHERE WHAT IT READS IS OF BULK AT MOST 1048576: true; the input reads as it did. -/
def fnExactFindConjugatorUptoRow : OpenClaim := { program := "ytkpganpojdboeaa", sum := "dfbef4a5cc9168e579e017ab87c832c69325f5059b51c1d28b7e6725917675c5", func := "loop.example/g01161/laws.FnExactFindConjugator", spec := "fnExactFindConjugator", inPlace := ["internal/bytealg.CountString", "internal/bytealg.IndexByteString", "internal/bytealg.IndexString", "internal/abi.NoEscape"], unfollowed := true, recurses := true, named := ["internal/bytealg.MaxLen"], plainKeys := false, apart := false, narrowed := true }
def FnExactFindConjugatorUptoSaid : Prop := fnExactFindConjugatorUptoRow.holds Try.pinned (OpenSpec.upto fnExactFindConjugatorSpec)

/-- 'laws.FnExactAreConjugateWithin', WHERE WHAT IT READS IS OF BULK AT MOST 1048576: true; the input reads as it did. -/
def fnExactAreConjugateWithinUptoRow : OpenClaim := { program := "ytkpganpojdboeaa", sum := "dfbef4a5cc9168e579e017ab87c832c69325f5059b51c1d28b7e6725917675c5", func := "loop.example/g01161/laws.FnExactAreConjugateWithin", spec := "fnExactAreConjugateWithin", inPlace := ["internal/bytealg.CountString", "internal/bytealg.IndexByteString", "internal/bytealg.IndexString", "internal/abi.NoEscape"], unfollowed := true, recurses := true, named := ["internal/bytealg.MaxLen"], plainKeys := false, apart := false, narrowed := true }
def FnExactAreConjugateWithinUptoSaid : Prop := fnExactAreConjugateWithinUptoRow.holds Try.pinned (OpenSpec.upto fnExactAreConjugateWithinSpec)

/-- 'laws.FnExactShiftPair', WHERE WHAT IT READS IS OF BULK AT MOST 1048576: true; the input reads as it did. -/
def fnExactShiftPairUptoRow : OpenClaim := { program := "ytkpganpojdboeaa", sum := "dfbef4a5cc9168e579e017ab87c832c69325f5059b51c1d28b7e6725917675c5", func := "loop.example/g01161/laws.FnExactShiftPair", spec := "fnExactShiftPair", inPlace := ["internal/bytealg.CountString", "internal/bytealg.IndexByteString", "internal/bytealg.IndexString"], unfollowed := true, recurses := true, named := ["internal/bytealg.MaxLen"], plainKeys := false, apart := false, narrowed := true }
def FnExactShiftPairUptoSaid : Prop := fnExactShiftPairUptoRow.holds Try.pinned (OpenSpec.upto fnExactShiftPairSpec)

/-- 'laws.FnExactHalvesPair', WHERE WHAT IT READS IS OF BULK AT MOST 1048576: true; the input reads as it did. -/
def fnExactHalvesPairUptoRow : OpenClaim := { program := "ytkpganpojdboeaa", sum := "dfbef4a5cc9168e579e017ab87c832c69325f5059b51c1d28b7e6725917675c5", func := "loop.example/g01161/laws.FnExactHalvesPair", spec := "fnExactHalvesPair", inPlace := ["internal/bytealg.CountString", "internal/bytealg.IndexByteString", "internal/bytealg.IndexString"], unfollowed := true, recurses := true, named := ["internal/bytealg.MaxLen"], plainKeys := false, apart := false, narrowed := true }
def FnExactHalvesPairUptoSaid : Prop := fnExactHalvesPairUptoRow.holds Try.pinned (OpenSpec.upto fnExactHalvesPairSpec)

/-- 'laws.FnExactSplitHalves', WHERE WHAT IT READS IS OF BULK AT MOST 1048576: true; the input reads as it did. -/
def fnExactSplitHalvesUptoRow : OpenClaim := { program := "ytkpganpojdboeaa", sum := "dfbef4a5cc9168e579e017ab87c832c69325f5059b51c1d28b7e6725917675c5", func := "loop.example/g01161/laws.FnExactSplitHalves", spec := "fnExactSplitHalves", inPlace := ["internal/bytealg.CountString", "internal/bytealg.IndexByteString", "internal/bytealg.IndexString"], unfollowed := true, recurses := true, named := ["internal/bytealg.MaxLen"], plainKeys := false, apart := false, narrowed := true }
def FnExactSplitHalvesUptoSaid : Prop := fnExactSplitHalvesUptoRow.holds Try.pinned (OpenSpec.upto fnExactSplitHalvesSpec)

/-- 'laws.FnExactSmallPairs', WHERE WHAT IT READS IS OF BULK AT MOST 1048576: true; the input reads as it did. -/
def fnExactSmallPairsUptoRow : OpenClaim := { program := "ytkpganpojdboeaa", sum := "dfbef4a5cc9168e579e017ab87c832c69325f5059b51c1d28b7e6725917675c5", func := "loop.example/g01161/laws.FnExactSmallPairs", spec := "fnExactSmallPairs", unfollowed := true, recurses := true, plainKeys := false, apart := false, narrowed := true }
def FnExactSmallPairsUptoSaid : Prop := fnExactSmallPairsUptoRow.holds Try.pinned (OpenSpec.upto fnExactSmallPairsSpec)

/-- 'laws.FnExactRootsOf', WHERE WHAT IT READS IS OF BULK AT MOST 1048576: true; the input reads as it did. -/
def fnExactRootsOfUptoRow : OpenClaim := { program := "ytkpganpojdboeaa", sum := "dfbef4a5cc9168e579e017ab87c832c69325f5059b51c1d28b7e6725917675c5", func := "loop.example/g01161/laws.FnExactRootsOf", spec := "fnExactRootsOf", inPlace := ["internal/bytealg.CountString", "internal/bytealg.IndexByteString", "internal/bytealg.IndexString", "internal/abi.NoEscape"], unfollowed := true, recurses := true, named := ["internal/bytealg.MaxLen"], plainKeys := false, apart := false, narrowed := true }
def FnExactRootsOfUptoSaid : Prop := fnExactRootsOfUptoRow.holds Try.pinned (OpenSpec.upto fnExactRootsOfSpec)

/-- 'laws.FnExactCommutingWith', WHERE WHAT IT READS IS OF BULK AT MOST 1048576: true; the input reads as it did. -/
def fnExactCommutingWithUptoRow : OpenClaim := { program := "ytkpganpojdboeaa", sum := "dfbef4a5cc9168e579e017ab87c832c69325f5059b51c1d28b7e6725917675c5", func := "loop.example/g01161/laws.FnExactCommutingWith", spec := "fnExactCommutingWith", inPlace := ["internal/bytealg.CountString", "internal/bytealg.IndexByteString", "internal/bytealg.IndexString", "internal/abi.NoEscape"], unfollowed := true, recurses := true, named := ["internal/bytealg.MaxLen"], plainKeys := false, apart := false, narrowed := true }
def FnExactCommutingWithUptoSaid : Prop := fnExactCommutingWithUptoRow.holds Try.pinned (OpenSpec.upto fnExactCommutingWithSpec)

/-- 'laws.FnExactConjugateByWord', WHERE WHAT IT READS IS OF BULK AT MOST 1048576: true; the input reads as it did. -/
def fnExactConjugateByWordUptoRow : OpenClaim := { program := "ytkpganpojdboeaa", sum := "dfbef4a5cc9168e579e017ab87c832c69325f5059b51c1d28b7e6725917675c5", func := "loop.example/g01161/laws.FnExactConjugateByWord", spec := "fnExactConjugateByWord", inPlace := ["internal/bytealg.CountString", "internal/bytealg.IndexByteString", "internal/bytealg.IndexString", "internal/abi.NoEscape"], unfollowed := true, recurses := true, named := ["internal/bytealg.MaxLen"], plainKeys := false, apart := false, narrowed := true }
def FnExactConjugateByWordUptoSaid : Prop := fnExactConjugateByWordUptoRow.holds Try.pinned (OpenSpec.upto fnExactConjugateByWordSpec)

end Rows
end Go.Proofs.Ytkpganpojdboeaa
