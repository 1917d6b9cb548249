/-
  No cell of these rows narrows 'for every input' (looked for: loops, veiled, ifaces, maps, wideKeys, modest, calm, conditions, laid).
  DERIVED. THE GIVEN ROWS OF THIS SEAT. 12 by the template 'for every input the law returns true; each argument reads behind the call as it read before'; 0 by the template 'total and deterministic' (their statements: YtbeailflcinilaaTotals.lean).
  GIVEN WITH THE SEED: the statements are not yours to turn. If you find one false, say at which input.
  Laid BY PROGRAM, IN A SANDBOX (cutbox-rows.mjs): the forced cells as the released guide's own fill.sh prints them over the translation 64f5a0f65a34ebff… (all of the seat's roots in one cut). By AI agents, Wed Nov 11 2026. No macro, syntax, notation, axiom, sorry.
-/
import Derived.Test.YtbeailflcinilaaChecked
import GoSem.Claim
import GoSem.ClaimJoined
import GoSem.ClaimMapViews
import Derived.JoinedTies
import Derived.KernelRfl
namespace Go.Proofs.Ytbeailflcinilaa
/- THE CELL 'sum', in the pinned program and in every row, IS THE sha256 OF THE DUMP (.gsa) THAT YtbeailflcinilaaProg.lean LOADS. Nothing in Lean hashes anything: it is a label: what it is worth is what the hold of that sum in a sandbox is worth. -/
noncomputable def Try.pinned : Pinned := { name := "ytbeailflcinilaa", sum := "64f5a0f65a34ebff18601eebd92f450e810307253a35e4e5d4e4405d006cfa08", checked := Try.checked }
namespace Rows
def none {H : Type} : Left H := { results := [], args := [] }

/-- 'laws.FnExactDropExposed': WHATEVER THE INPUT: true; the input reads as it did. -/
def fnExactDropExposedSpec : ChangeSpec := { name := "fnExactDropExposed", fn := fun _ => fun
  | [d1, d2] => { results := [.lit (.bool true)], args := [d1, d2] }
  | _ => none }
def fnExactDropExposedRow : OpenClaim := { program := "ytbeailflcinilaa", sum := "64f5a0f65a34ebff18601eebd92f450e810307253a35e4e5d4e4405d006cfa08", func := "loop.example/g01161/laws.FnExactDropExposed", spec := "fnExactDropExposed", recurses := true, apart := false }
def FnExactDropExposedSaid : Prop := fnExactDropExposedRow.holds Try.pinned (OpenSpec.ofChange fnExactDropExposedSpec)

/-- ITS FALSE NEIGHBOUR: 'it returns false'. Refute it at one input. -/
def fnExactDropExposedWrong : ChangeSpec := { name := "fnExactDropExposed", fn := fun _ => fun
  | [d1, d2] => { results := [.lit (.bool false)], args := [d1, d2] }
  | _ => none }
def FnExactDropExposedWrongFalsely : Prop := fnExactDropExposedRow.holds Try.pinned (OpenSpec.ofChange fnExactDropExposedWrong)

/-- 'laws.FnExactExposedOf': WHATEVER THE INPUT: true; the input reads as it did. -/
def fnExactExposedOfSpec : ChangeSpec := { name := "fnExactExposedOf", fn := fun _ => fun
  | [d] => { results := [.lit (.bool true)], args := [d] }
  | _ => none }
def fnExactExposedOfRow : OpenClaim := { program := "ytbeailflcinilaa", sum := "64f5a0f65a34ebff18601eebd92f450e810307253a35e4e5d4e4405d006cfa08", func := "loop.example/g01161/laws.FnExactExposedOf", spec := "fnExactExposedOf", recurses := true, apart := false }
def FnExactExposedOfSaid : Prop := fnExactExposedOfRow.holds Try.pinned (OpenSpec.ofChange fnExactExposedOfSpec)

/-- ITS FALSE NEIGHBOUR: 'it returns false'. Refute it at one input. -/
def fnExactExposedOfWrong : ChangeSpec := { name := "fnExactExposedOf", fn := fun _ => fun
  | [d] => { results := [.lit (.bool false)], args := [d] }
  | _ => none }
def FnExactExposedOfWrongFalsely : Prop := fnExactExposedOfRow.holds Try.pinned (OpenSpec.ofChange fnExactExposedOfWrong)

/-- 'laws.FnExactIsPair': WHATEVER THE INPUT: true; the input reads as it did. -/
def fnExactIsPairSpec : ChangeSpec := { name := "fnExactIsPair", fn := fun _ => fun
  | [d] => { results := [.lit (.bool true)], args := [d] }
  | _ => none }
def fnExactIsPairRow : OpenClaim := { program := "ytbeailflcinilaa", sum := "64f5a0f65a34ebff18601eebd92f450e810307253a35e4e5d4e4405d006cfa08", func := "loop.example/g01161/laws.FnExactIsPair", spec := "fnExactIsPair", inPlace := ["internal/bytealg.CountString", "internal/bytealg.IndexByteString", "internal/bytealg.IndexString"], recurses := true, named := ["internal/bytealg.MaxLen"], apart := false }
def FnExactIsPairSaid : Prop := fnExactIsPairRow.holds Try.pinned (OpenSpec.ofChange fnExactIsPairSpec)

/-- ITS FALSE NEIGHBOUR: 'it returns false'. Refute it at one input. -/
def fnExactIsPairWrong : ChangeSpec := { name := "fnExactIsPair", fn := fun _ => fun
  | [d] => { results := [.lit (.bool false)], args := [d] }
  | _ => none }
def FnExactIsPairWrongFalsely : Prop := fnExactIsPairRow.holds Try.pinned (OpenSpec.ofChange fnExactIsPairWrong)

/-- 'laws.FnExactIsReduced': WHATEVER THE INPUT: true; the input reads as it did. -/
def fnExactIsReducedSpec : ChangeSpec := { name := "fnExactIsReduced", fn := fun _ => fun
  | [d] => { results := [.lit (.bool true)], args := [d] }
  | _ => none }
def fnExactIsReducedRow : OpenClaim := { program := "ytbeailflcinilaa", sum := "64f5a0f65a34ebff18601eebd92f450e810307253a35e4e5d4e4405d006cfa08", func := "loop.example/g01161/laws.FnExactIsReduced", spec := "fnExactIsReduced", inPlace := ["internal/bytealg.CountString", "internal/bytealg.IndexByteString", "internal/bytealg.IndexString"], unfollowed := true, recurses := true, named := ["internal/bytealg.MaxLen"], apart := false }
def FnExactIsReducedSaid : Prop := fnExactIsReducedRow.holds Try.pinned (OpenSpec.ofChange fnExactIsReducedSpec)

/-- ITS FALSE NEIGHBOUR: 'it returns false'. Refute it at one input. -/
def fnExactIsReducedWrong : ChangeSpec := { name := "fnExactIsReduced", fn := fun _ => fun
  | [d] => { results := [.lit (.bool false)], args := [d] }
  | _ => none }
def FnExactIsReducedWrongFalsely : Prop := fnExactIsReducedRow.holds Try.pinned (OpenSpec.ofChange fnExactIsReducedWrong)

/-- 'laws.FnExactReducePair': WHATEVER THE INPUT: true; the input reads as it did. -/
def fnExactReducePairSpec : ChangeSpec := { name := "fnExactReducePair", fn := fun _ => fun
  | [d] => { results := [.lit (.bool true)], args := [d] }
  | _ => none }
def fnExactReducePairRow : OpenClaim := { program := "ytbeailflcinilaa", sum := "64f5a0f65a34ebff18601eebd92f450e810307253a35e4e5d4e4405d006cfa08", func := "loop.example/g01161/laws.FnExactReducePair", spec := "fnExactReducePair", inPlace := ["internal/bytealg.CountString", "internal/bytealg.IndexByteString", "internal/bytealg.IndexString"], unfollowed := true, recurses := true, named := ["internal/bytealg.MaxLen"], apart := false }
def FnExactReducePairSaid : Prop := fnExactReducePairRow.holds Try.pinned (OpenSpec.ofChange fnExactReducePairSpec)

/-- ITS FALSE NEIGHBOUR: 'it returns false'. Refute it at one input. -/
def fnExactReducePairWrong : ChangeSpec := { name := "fnExactReducePair", fn := fun _ => fun
  | [d] => { results := [.lit (.bool false)], args := [d] }
  | _ => none }
def FnExactReducePairWrongFalsely : Prop := fnExactReducePairRow.holds Try.pinned (OpenSpec.ofChange fnExactReducePairWrong)

/-- 'laws.FnExactReduceBy': WHATEVER THE INPUT: true; the input reads as it did. -/
def fnExactReduceBySpec : ChangeSpec := { name := "fnExactReduceBy", fn := fun _ => fun
  | [d1, d2] => { results := [.lit (.bool true)], args := [d1, d2] }
  | _ => none }
def fnExactReduceByRow : OpenClaim := { program := "ytbeailflcinilaa", sum := "64f5a0f65a34ebff18601eebd92f450e810307253a35e4e5d4e4405d006cfa08", func := "loop.example/g01161/laws.FnExactReduceBy", spec := "fnExactReduceBy", inPlace := ["internal/bytealg.CountString", "internal/bytealg.IndexByteString", "internal/bytealg.IndexString"], unfollowed := true, recurses := true, named := ["internal/bytealg.MaxLen"], apart := false }
def FnExactReduceBySaid : Prop := fnExactReduceByRow.holds Try.pinned (OpenSpec.ofChange fnExactReduceBySpec)

/-- ITS FALSE NEIGHBOUR: 'it returns false'. Refute it at one input. -/
def fnExactReduceByWrong : ChangeSpec := { name := "fnExactReduceBy", fn := fun _ => fun
  | [d1, d2] => { results := [.lit (.bool false)], args := [d1, d2] }
  | _ => none }
def FnExactReduceByWrongFalsely : Prop := fnExactReduceByRow.holds Try.pinned (OpenSpec.ofChange fnExactReduceByWrong)

/-- 'laws.FnExactExpandPair': WHATEVER THE INPUT: true; the input reads as it did. -/
def fnExactExpandPairSpec : ChangeSpec := { name := "fnExactExpandPair", fn := fun _ => fun
  | [d1, d2] => { results := [.lit (.bool true)], args := [d1, d2] }
  | _ => none }
def fnExactExpandPairRow : OpenClaim := { program := "ytbeailflcinilaa", sum := "64f5a0f65a34ebff18601eebd92f450e810307253a35e4e5d4e4405d006cfa08", func := "loop.example/g01161/laws.FnExactExpandPair", spec := "fnExactExpandPair", inPlace := ["internal/bytealg.CountString", "internal/bytealg.IndexByteString", "internal/bytealg.IndexString"], recurses := true, named := ["internal/bytealg.MaxLen"], apart := false }
def FnExactExpandPairSaid : Prop := fnExactExpandPairRow.holds Try.pinned (OpenSpec.ofChange fnExactExpandPairSpec)

/-- ITS FALSE NEIGHBOUR: 'it returns false'. Refute it at one input. -/
def fnExactExpandPairWrong : ChangeSpec := { name := "fnExactExpandPair", fn := fun _ => fun
  | [d1, d2] => { results := [.lit (.bool false)], args := [d1, d2] }
  | _ => none }
def FnExactExpandPairWrongFalsely : Prop := fnExactExpandPairRow.holds Try.pinned (OpenSpec.ofChange fnExactExpandPairWrong)

/-- 'laws.FnExactInversePair': WHATEVER THE INPUT: true; the input reads as it did. -/
def fnExactInversePairSpec : ChangeSpec := { name := "fnExactInversePair", fn := fun _ => fun
  | [d] => { results := [.lit (.bool true)], args := [d] }
  | _ => none }
def fnExactInversePairRow : OpenClaim := { program := "ytbeailflcinilaa", sum := "64f5a0f65a34ebff18601eebd92f450e810307253a35e4e5d4e4405d006cfa08", func := "loop.example/g01161/laws.FnExactInversePair", spec := "fnExactInversePair", inPlace := ["internal/bytealg.CountString", "internal/bytealg.IndexByteString", "internal/bytealg.IndexString"], recurses := true, named := ["internal/bytealg.MaxLen"], apart := false }
def FnExactInversePairSaid : Prop := fnExactInversePairRow.holds Try.pinned (OpenSpec.ofChange fnExactInversePairSpec)

/-- ITS FALSE NEIGHBOUR: 'it returns false'. Refute it at one input. -/
def fnExactInversePairWrong : ChangeSpec := { name := "fnExactInversePair", fn := fun _ => fun
  | [d] => { results := [.lit (.bool false)], args := [d] }
  | _ => none }
def FnExactInversePairWrongFalsely : Prop := fnExactInversePairRow.holds Try.pinned (OpenSpec.ofChange fnExactInversePairWrong)

/-- 'laws.FnExactProductPair': WHATEVER THE INPUT: true; the input reads as it did. -/
def fnExactProductPairSpec : ChangeSpec := { name := "fnExactProductPair", fn := fun _ => fun
  | [d1, d2] => { results := [.lit (.bool true)], args := [d1, d2] }
  | _ => none }
def fnExactProductPairRow : OpenClaim := { program := "ytbeailflcinilaa", sum := "64f5a0f65a34ebff18601eebd92f450e810307253a35e4e5d4e4405d006cfa08", func := "loop.example/g01161/laws.FnExactProductPair", spec := "fnExactProductPair", inPlace := ["internal/bytealg.CountString", "internal/bytealg.IndexByteString", "internal/bytealg.IndexString", "internal/abi.NoEscape"], unfollowed := true, recurses := true, named := ["internal/bytealg.MaxLen"], apart := false }
def FnExactProductPairSaid : Prop := fnExactProductPairRow.holds Try.pinned (OpenSpec.ofChange fnExactProductPairSpec)

/-- ITS FALSE NEIGHBOUR: 'it returns false'. Refute it at one input. -/
def fnExactProductPairWrong : ChangeSpec := { name := "fnExactProductPair", fn := fun _ => fun
  | [d1, d2] => { results := [.lit (.bool false)], args := [d1, d2] }
  | _ => none }
def FnExactProductPairWrongFalsely : Prop := fnExactProductPairRow.holds Try.pinned (OpenSpec.ofChange fnExactProductPairWrong)

/-- 'laws.FnExactPowerPair': WHATEVER THE INPUT: true; the input reads as it did. -/
def fnExactPowerPairSpec : ChangeSpec := { name := "fnExactPowerPair", fn := fun _ => fun
  | [d1, d2] => { results := [.lit (.bool true)], args := [d1, d2] }
  | _ => none }
def fnExactPowerPairRow : OpenClaim := { program := "ytbeailflcinilaa", sum := "64f5a0f65a34ebff18601eebd92f450e810307253a35e4e5d4e4405d006cfa08", func := "loop.example/g01161/laws.FnExactPowerPair", spec := "fnExactPowerPair", inPlace := ["internal/bytealg.CountString", "internal/bytealg.IndexByteString", "internal/bytealg.IndexString", "internal/abi.NoEscape"], unfollowed := true, recurses := true, named := ["internal/bytealg.MaxLen"], apart := false }
def FnExactPowerPairSaid : Prop := fnExactPowerPairRow.holds Try.pinned (OpenSpec.ofChange fnExactPowerPairSpec)

/-- ITS FALSE NEIGHBOUR: 'it returns false'. Refute it at one input. -/
def fnExactPowerPairWrong : ChangeSpec := { name := "fnExactPowerPair", fn := fun _ => fun
  | [d1, d2] => { results := [.lit (.bool false)], args := [d1, d2] }
  | _ => none }
def FnExactPowerPairWrongFalsely : Prop := fnExactPowerPairRow.holds Try.pinned (OpenSpec.ofChange fnExactPowerPairWrong)

/-- 'laws.FnExactAreSamePairs': WHATEVER THE INPUT: true; the input reads as it did. -/
def fnExactAreSamePairsSpec : ChangeSpec := { name := "fnExactAreSamePairs", fn := fun _ => fun
  | [d1, d2] => { results := [.lit (.bool true)], args := [d1, d2] }
  | _ => none }
def fnExactAreSamePairsRow : OpenClaim := { program := "ytbeailflcinilaa", sum := "64f5a0f65a34ebff18601eebd92f450e810307253a35e4e5d4e4405d006cfa08", func := "loop.example/g01161/laws.FnExactAreSamePairs", spec := "fnExactAreSamePairs", inPlace := ["internal/bytealg.CountString", "internal/bytealg.IndexByteString", "internal/bytealg.IndexString"], unfollowed := true, recurses := true, named := ["internal/bytealg.MaxLen"], apart := false }
def FnExactAreSamePairsSaid : Prop := fnExactAreSamePairsRow.holds Try.pinned (OpenSpec.ofChange fnExactAreSamePairsSpec)

/-- ITS FALSE NEIGHBOUR: 'it returns false'. Refute it at one input. -/
def fnExactAreSamePairsWrong : ChangeSpec := { name := "fnExactAreSamePairs", fn := fun _ => fun
  | [d1, d2] => { results := [.lit (.bool false)], args := [d1, d2] }
  | _ => none }
def FnExactAreSamePairsWrongFalsely : Prop := fnExactAreSamePairsRow.holds Try.pinned (OpenSpec.ofChange fnExactAreSamePairsWrong)

/-- 'laws.FnExactCommutatorPair': WHATEVER THE INPUT: true; the input reads as it did. -/
def fnExactCommutatorPairSpec : ChangeSpec := { name := "fnExactCommutatorPair", fn := fun _ => fun
  | [d1, d2] => { results := [.lit (.bool true)], args := [d1, d2] }
  | _ => none }
def fnExactCommutatorPairRow : OpenClaim := { program := "ytbeailflcinilaa", sum := "64f5a0f65a34ebff18601eebd92f450e810307253a35e4e5d4e4405d006cfa08", func := "loop.example/g01161/laws.FnExactCommutatorPair", spec := "fnExactCommutatorPair", inPlace := ["internal/bytealg.CountString", "internal/bytealg.IndexByteString", "internal/bytealg.IndexString", "internal/abi.NoEscape"], unfollowed := true, recurses := true, named := ["internal/bytealg.MaxLen"], apart := false }
def FnExactCommutatorPairSaid : Prop := fnExactCommutatorPairRow.holds Try.pinned (OpenSpec.ofChange fnExactCommutatorPairSpec)

/-- ITS FALSE NEIGHBOUR: 'it returns false'. Refute it at one input. -/
def fnExactCommutatorPairWrong : ChangeSpec := { name := "fnExactCommutatorPair", fn := fun _ => fun
  | [d1, d2] => { results := [.lit (.bool false)], args := [d1, d2] }
  | _ => none }
def FnExactCommutatorPairWrongFalsely : Prop := fnExactCommutatorPairRow.holds Try.pinned (OpenSpec.ofChange fnExactCommutatorPairWrong)

/- THE SECOND FORM. 'bulk': how many values and letters a reading holds, each counted each time it is reached (what is shared counts as often as it is met; a slice's spare places count too). A statement '..UptoSaid' is the law's where the arguments, and the package variables that the reading takes, are together of bulk at most 1048576: NARROWER than '..Said'. Prove '..Said' where nothing that the law and all that it calls make is longer than what came in: it says more and counts as full. Else prove '..UptoSaid'. A law counts once. -/
mutual
def uptoBulk {H : Type} : DataW H → Nat
  | .lit (.string bytes) => bytes.length + 1
  | .lit _ => 1
  | .nil => 1
  | .ptr d => uptoBulk d + 1
  | .slice elems spare => uptoBulkAll elems + uptoBulkAll spare + 1
  | .agg parts => uptoBulkAll parts + 1
  | .iface _ d => uptoBulk d + 1
  | .map entries => uptoBulkEntries entries + 1
  | .held _ => 1
def uptoBulkAll {H : Type} : List (DataW H) → Nat
  | [] => 0
  | d :: r => uptoBulk d + uptoBulkAll r
def uptoBulkEntries {H : Type} : List (Lit × DataW H) → Nat
  | [] => 0
  | x :: r => uptoBulkEntry x + uptoBulkEntries r
def uptoBulkEntry {H : Type} : Lit × DataW H → Nat
  | (.string bytes, d) => bytes.length + uptoBulk d + 1
  | (_, d) => uptoBulk d + 1
 end
def uptoSmall : (H : Type) → List (DataW H) → Bool := fun _ ds => decide (uptoBulkAll ds ≤ 1048576)
def OpenSpec.upto (s : _root_.Go.ChangeSpec) : _root_.Go.OpenSpec := { _root_.Go.OpenSpec.ofChange s with cond := some uptoSmall }

/-- 'laws.FnExactDropExposed', WHERE WHAT IT READS IS OF BULK AT MOST 1048576: true; the input reads as it did. -/
def fnExactDropExposedUptoRow : OpenClaim := { program := "ytbeailflcinilaa", sum := "64f5a0f65a34ebff18601eebd92f450e810307253a35e4e5d4e4405d006cfa08", func := "loop.example/g01161/laws.FnExactDropExposed", spec := "fnExactDropExposed", recurses := true, apart := false, narrowed := true }
def FnExactDropExposedUptoSaid : Prop := fnExactDropExposedUptoRow.holds Try.pinned (OpenSpec.upto fnExactDropExposedSpec)

/-- 'laws.FnExactExposedOf', WHERE WHAT IT READS IS OF BULK AT MOST 1048576: true; the input reads as it did. -/
def fnExactExposedOfUptoRow : OpenClaim := { program := "ytbeailflcinilaa", sum := "64f5a0f65a34ebff18601eebd92f450e810307253a35e4e5d4e4405d006cfa08", func := "loop.example/g01161/laws.FnExactExposedOf", spec := "fnExactExposedOf", recurses := true, apart := false, narrowed := true }
def FnExactExposedOfUptoSaid : Prop := fnExactExposedOfUptoRow.holds Try.pinned (OpenSpec.upto fnExactExposedOfSpec)

/-- 'laws.FnExactIsPair', WHERE WHAT IT READS IS OF BULK AT MOST 1048576: true; the input reads as it did. -/
def fnExactIsPairUptoRow : OpenClaim := { program := "ytbeailflcinilaa", sum := "64f5a0f65a34ebff18601eebd92f450e810307253a35e4e5d4e4405d006cfa08", func := "loop.example/g01161/laws.FnExactIsPair", spec := "fnExactIsPair", inPlace := ["internal/bytealg.CountString", "internal/bytealg.IndexByteString", "internal/bytealg.IndexString"], recurses := true, named := ["internal/bytealg.MaxLen"], apart := false, narrowed := true }
def FnExactIsPairUptoSaid : Prop := fnExactIsPairUptoRow.holds Try.pinned (OpenSpec.upto fnExactIsPairSpec)

/-- 'laws.FnExactIsReduced', WHERE WHAT IT READS IS OF BULK AT MOST 1048576: true; the input reads as it did. -/
def fnExactIsReducedUptoRow : OpenClaim := { program := "ytbeailflcinilaa", sum := "64f5a0f65a34ebff18601eebd92f450e810307253a35e4e5d4e4405d006cfa08", func := "loop.example/g01161/laws.FnExactIsReduced", spec := "fnExactIsReduced", inPlace := ["internal/bytealg.CountString", "internal/bytealg.IndexByteString", "internal/bytealg.IndexString"], unfollowed := true, recurses := true, named := ["internal/bytealg.MaxLen"], apart := false, narrowed := true }
def FnExactIsReducedUptoSaid : Prop := fnExactIsReducedUptoRow.holds Try.pinned (OpenSpec.upto fnExactIsReducedSpec)

/-- 'laws.FnExactReducePair', WHERE WHAT IT READS IS OF BULK AT MOST 1048576: true; the input reads as it did. -/
def fnExactReducePairUptoRow : OpenClaim := { program := "ytbeailflcinilaa", sum := "64f5a0f65a34ebff18601eebd92f450e810307253a35e4e5d4e4405d006cfa08", func := "loop.example/g01161/laws.FnExactReducePair", spec := "fnExactReducePair", inPlace := ["internal/bytealg.CountString", "internal/bytealg.IndexByteString", "internal/bytealg.IndexString"], unfollowed := true, recurses := true, named := ["internal/bytealg.MaxLen"], apart := false, narrowed := true }
def FnExactReducePairUptoSaid : Prop := fnExactReducePairUptoRow.holds Try.pinned (OpenSpec.upto fnExactReducePairSpec)

/-- 'laws.FnExactReduceBy', WHERE WHAT IT READS IS OF BULK AT MOST 1048576: true; the input reads as it did. -/
def fnExactReduceByUptoRow : OpenClaim := { program := "ytbeailflcinilaa", sum := "64f5a0f65a34ebff18601eebd92f450e810307253a35e4e5d4e4405d006cfa08", func := "loop.example/g01161/laws.FnExactReduceBy", spec := "fnExactReduceBy", inPlace := ["internal/bytealg.CountString", "internal/bytealg.IndexByteString", "internal/bytealg.IndexString"], unfollowed := true, recurses := true, named := ["internal/bytealg.MaxLen"], apart := false, narrowed := true }
def FnExactReduceByUptoSaid : Prop := fnExactReduceByUptoRow.holds Try.pinned (OpenSpec.upto fnExactReduceBySpec)

/-- 'laws.FnExactExpandPair', WHERE WHAT IT READS IS OF BULK AT MOST 1048576: true; the input reads as it did. -/
def fnExactExpandPairUptoRow : OpenClaim := { program := "ytbeailflcinilaa", sum := "64f5a0f65a34ebff18601eebd92f450e810307253a35e4e5d4e4405d006cfa08", func := "loop.example/g01161/laws.FnExactExpandPair", spec := "fnExactExpandPair", inPlace := ["internal/bytealg.CountString", "internal/bytealg.IndexByteString", "internal/bytealg.IndexString"], recurses := true, named := ["internal/bytealg.MaxLen"], apart := false, narrowed := true }
def FnExactExpandPairUptoSaid : Prop := fnExactExpandPairUptoRow.holds Try.pinned (OpenSpec.upto fnExactExpandPairSpec)

/-- 'laws.FnExactInversePair', WHERE WHAT IT READS IS OF BULK AT MOST 1048576: true; the input reads as it did. -/
def fnExactInversePairUptoRow : OpenClaim := { program := "ytbeailflcinilaa", sum := "64f5a0f65a34ebff18601eebd92f450e810307253a35e4e5d4e4405d006cfa08", func := "loop.example/g01161/laws.FnExactInversePair", spec := "fnExactInversePair", inPlace := ["internal/bytealg.CountString", "internal/bytealg.IndexByteString", "internal/bytealg.IndexString"], recurses := true, named := ["internal/bytealg.MaxLen"], apart := false, narrowed := true }
def FnExactInversePairUptoSaid : Prop := fnExactInversePairUptoRow.holds Try.pinned (OpenSpec.upto fnExactInversePairSpec)

/-- 'laws.FnExactProductPair', WHERE WHAT IT READS IS OF BULK AT MOST 1048576: true; the input reads as it did. -/
def fnExactProductPairUptoRow : OpenClaim := { program := "ytbeailflcinilaa", sum := "64f5a0f65a34ebff18601eebd92f450e810307253a35e4e5d4e4405d006cfa08", func := "loop.example/g01161/laws.FnExactProductPair", spec := "fnExactProductPair", inPlace := ["internal/bytealg.CountString", "internal/bytealg.IndexByteString", "internal/bytealg.IndexString", "internal/abi.NoEscape"], unfollowed := true, recurses := true, named := ["internal/bytealg.MaxLen"], apart := false, narrowed := true }
def FnExactProductPairUptoSaid : Prop := fnExactProductPairUptoRow.holds Try.pinned (OpenSpec.upto fnExactProductPairSpec)

/-- 'laws.FnExactPowerPair', WHERE WHAT IT READS IS OF BULK AT MOST 1048576: true; the input reads as it did. -/
def fnExactPowerPairUptoRow : OpenClaim := { program := "ytbeailflcinilaa", sum := "64f5a0f65a34ebff18601eebd92f450e810307253a35e4e5d4e4405d006cfa08", func := "loop.example/g01161/laws.FnExactPowerPair", spec := "fnExactPowerPair", inPlace := ["internal/bytealg.CountString", "internal/bytealg.IndexByteString", "internal/bytealg.IndexString", "internal/abi.NoEscape"], unfollowed := true, recurses := true, named := ["internal/bytealg.MaxLen"], apart := false, narrowed := true }
def FnExactPowerPairUptoSaid : Prop := fnExactPowerPairUptoRow.holds Try.pinned (OpenSpec.upto fnExactPowerPairSpec)

/-- 'laws.FnExactAreSamePairs', WHERE WHAT IT READS IS OF BULK AT MOST 1048576: true; the input reads as it did. -/
def fnExactAreSamePairsUptoRow : OpenClaim := { program := "ytbeailflcinilaa", sum := "64f5a0f65a34ebff18601eebd92f450e810307253a35e4e5d4e4405d006cfa08", func := "loop.example/g01161/laws.FnExactAreSamePairs", spec := "fnExactAreSamePairs", inPlace := ["internal/bytealg.CountString", "internal/bytealg.IndexByteString", "internal/bytealg.IndexString"], unfollowed := true, recurses := true, named := ["internal/bytealg.MaxLen"], apart := false, narrowed := true }
def FnExactAreSamePairsUptoSaid : Prop := fnExactAreSamePairsUptoRow.holds Try.pinned (OpenSpec.upto fnExactAreSamePairsSpec)

/-- 'laws.FnExactCommutatorPair', WHERE WHAT IT READS IS OF BULK AT MOST 1048576: true; the input reads as it did. -/
def fnExactCommutatorPairUptoRow : OpenClaim := { program := "ytbeailflcinilaa", sum := "64f5a0f65a34ebff18601eebd92f450e810307253a35e4e5d4e4405d006cfa08", func := "loop.example/g01161/laws.FnExactCommutatorPair", spec := "fnExactCommutatorPair", inPlace := ["internal/bytealg.CountString", "internal/bytealg.IndexByteString", "internal/bytealg.IndexString", "internal/abi.NoEscape"], unfollowed := true, recurses := true, named := ["internal/bytealg.MaxLen"], apart := false, narrowed := true }
def FnExactCommutatorPairUptoSaid : Prop := fnExactCommutatorPairUptoRow.holds Try.pinned (OpenSpec.upto fnExactCommutatorPairSpec)

end Rows
end Go.Proofs.Ytbeailflcinilaa
