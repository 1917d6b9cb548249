/-
  No cell of these rows narrows 'for every input' (looked for: loops, veiled, ifaces, maps, wideKeys, modest, calm, conditions, laid).
  DERIVED. THE GIVEN ROWS OF THIS SEAT. 10 by the template 'for every input the law returns true; each argument reads behind the call as it read before'; 0 by the template 'total and deterministic' (their statements: YtdpfoeknphiheabTotals.lean).
  GIVEN WITH THE SEED: the statements are not yours to turn. If you find one false, say at which input.
  Laid BY PROGRAM, IN A SANDBOX (cutbox-rows.mjs): the forced cells as the released guide's own fill.sh prints them over the translation c90d077e0cd92020… (all of the seat's roots in one cut). By AI agents, Wed Nov 11 2026. No macro, syntax, notation, axiom, sorry.
-/
import Derived.Test.YtdpfoeknphiheabChecked
import GoSem.Claim
import GoSem.ClaimJoined
import GoSem.ClaimMapViews
import Derived.JoinedTies
import Derived.KernelRfl
namespace Go.Proofs.Ytdpfoeknphiheab
/- THE CELL 'sum', in the pinned program and in every row, IS THE sha256 OF THE DUMP (.gsa) THAT YtdpfoeknphiheabProg.lean LOADS. Nothing in Lean hashes anything: it is a label: what it is worth is what the hold of that sum in a sandbox is worth. -/
noncomputable def Try.pinned : Pinned := { name := "ytdpfoeknphiheab", sum := "c90d077e0cd920207b454a24e3c291737d1cc224b3bfc36c786d76ccafdf8712", checked := Try.checked }
namespace Rows
def none {H : Type} : Left H := { results := [], args := [] }

/-- 'laws.FnExactIsPartOf': WHATEVER THE INPUT: true; the input reads as it did. -/
def fnExactIsPartOfSpec : ChangeSpec := { name := "fnExactIsPartOf", fn := fun _ => fun
  | [d1, d2] => { results := [.lit (.bool true)], args := [d1, d2] }
  | _ => none }
def fnExactIsPartOfRow : OpenClaim := { program := "ytdpfoeknphiheab", sum := "c90d077e0cd920207b454a24e3c291737d1cc224b3bfc36c786d76ccafdf8712", func := "loop.example/g01161/laws.FnExactIsPartOf", spec := "fnExactIsPartOf", recurses := true, apart := false }
def FnExactIsPartOfSaid : Prop := fnExactIsPartOfRow.holds Try.pinned (OpenSpec.ofChange fnExactIsPartOfSpec)

/-- ITS FALSE NEIGHBOUR: 'it returns false'. Refute it at one input. -/
def fnExactIsPartOfWrong : ChangeSpec := { name := "fnExactIsPartOf", fn := fun _ => fun
  | [d1, d2] => { results := [.lit (.bool false)], args := [d1, d2] }
  | _ => none }
def FnExactIsPartOfWrongFalsely : Prop := fnExactIsPartOfRow.holds Try.pinned (OpenSpec.ofChange fnExactIsPartOfWrong)

/-- 'laws.FnExactExposedOf': WHATEVER THE INPUT: true; the input reads as it did. -/
def fnExactExposedOfSpec : ChangeSpec := { name := "fnExactExposedOf", fn := fun _ => fun
  | [d] => { results := [.lit (.bool true)], args := [d] }
  | _ => none }
def fnExactExposedOfRow : OpenClaim := { program := "ytdpfoeknphiheab", sum := "c90d077e0cd920207b454a24e3c291737d1cc224b3bfc36c786d76ccafdf8712", func := "loop.example/g01161/laws.FnExactExposedOf", spec := "fnExactExposedOf", recurses := true, apart := false }
def FnExactExposedOfSaid : Prop := fnExactExposedOfRow.holds Try.pinned (OpenSpec.ofChange fnExactExposedOfSpec)

/-- ITS FALSE NEIGHBOUR: 'it returns false'. Refute it at one input. -/
def fnExactExposedOfWrong : ChangeSpec := { name := "fnExactExposedOf", fn := fun _ => fun
  | [d] => { results := [.lit (.bool false)], args := [d] }
  | _ => none }
def FnExactExposedOfWrongFalsely : Prop := fnExactExposedOfRow.holds Try.pinned (OpenSpec.ofChange fnExactExposedOfWrong)

/-- 'laws.FnExactDropExposed': WHATEVER THE INPUT: true; the input reads as it did. -/
def fnExactDropExposedSpec : ChangeSpec := { name := "fnExactDropExposed", fn := fun _ => fun
  | [d1, d2] => { results := [.lit (.bool true)], args := [d1, d2] }
  | _ => none }
def fnExactDropExposedRow : OpenClaim := { program := "ytdpfoeknphiheab", sum := "c90d077e0cd920207b454a24e3c291737d1cc224b3bfc36c786d76ccafdf8712", func := "loop.example/g01161/laws.FnExactDropExposed", spec := "fnExactDropExposed", recurses := true, apart := false }
def FnExactDropExposedSaid : Prop := fnExactDropExposedRow.holds Try.pinned (OpenSpec.ofChange fnExactDropExposedSpec)

/-- ITS FALSE NEIGHBOUR: 'it returns false'. Refute it at one input. -/
def fnExactDropExposedWrong : ChangeSpec := { name := "fnExactDropExposed", fn := fun _ => fun
  | [d1, d2] => { results := [.lit (.bool false)], args := [d1, d2] }
  | _ => none }
def FnExactDropExposedWrongFalsely : Prop := fnExactDropExposedRow.holds Try.pinned (OpenSpec.ofChange fnExactDropExposedWrong)

/-- 'laws.FnExactRightComb': WHATEVER THE INPUT: true; the input reads as it did. -/
def fnExactRightCombSpec : ChangeSpec := { name := "fnExactRightComb", fn := fun _ => fun
  | [d] => { results := [.lit (.bool true)], args := [d] }
  | _ => none }
def fnExactRightCombRow : OpenClaim := { program := "ytdpfoeknphiheab", sum := "c90d077e0cd920207b454a24e3c291737d1cc224b3bfc36c786d76ccafdf8712", func := "loop.example/g01161/laws.FnExactRightComb", spec := "fnExactRightComb", unfollowed := true, recurses := true, apart := false }
def FnExactRightCombSaid : Prop := fnExactRightCombRow.holds Try.pinned (OpenSpec.ofChange fnExactRightCombSpec)

/-- ITS FALSE NEIGHBOUR: 'it returns false'. Refute it at one input. -/
def fnExactRightCombWrong : ChangeSpec := { name := "fnExactRightComb", fn := fun _ => fun
  | [d] => { results := [.lit (.bool false)], args := [d] }
  | _ => none }
def FnExactRightCombWrongFalsely : Prop := fnExactRightCombRow.holds Try.pinned (OpenSpec.ofChange fnExactRightCombWrong)

/-- 'laws.FnExactLeftComb': WHATEVER THE INPUT: true; the input reads as it did. -/
def fnExactLeftCombSpec : ChangeSpec := { name := "fnExactLeftComb", fn := fun _ => fun
  | [d] => { results := [.lit (.bool true)], args := [d] }
  | _ => none }
def fnExactLeftCombRow : OpenClaim := { program := "ytdpfoeknphiheab", sum := "c90d077e0cd920207b454a24e3c291737d1cc224b3bfc36c786d76ccafdf8712", func := "loop.example/g01161/laws.FnExactLeftComb", spec := "fnExactLeftComb", unfollowed := true, recurses := true, apart := false }
def FnExactLeftCombSaid : Prop := fnExactLeftCombRow.holds Try.pinned (OpenSpec.ofChange fnExactLeftCombSpec)

/-- ITS FALSE NEIGHBOUR: 'it returns false'. Refute it at one input. -/
def fnExactLeftCombWrong : ChangeSpec := { name := "fnExactLeftComb", fn := fun _ => fun
  | [d] => { results := [.lit (.bool false)], args := [d] }
  | _ => none }
def FnExactLeftCombWrongFalsely : Prop := fnExactLeftCombRow.holds Try.pinned (OpenSpec.ofChange fnExactLeftCombWrong)

/-- 'laws.FnExactMirrorTree': WHATEVER THE INPUT: true; the input reads as it did. -/
def fnExactMirrorTreeSpec : ChangeSpec := { name := "fnExactMirrorTree", fn := fun _ => fun
  | [d] => { results := [.lit (.bool true)], args := [d] }
  | _ => none }
def fnExactMirrorTreeRow : OpenClaim := { program := "ytdpfoeknphiheab", sum := "c90d077e0cd920207b454a24e3c291737d1cc224b3bfc36c786d76ccafdf8712", func := "loop.example/g01161/laws.FnExactMirrorTree", spec := "fnExactMirrorTree", recurses := true, apart := false }
def FnExactMirrorTreeSaid : Prop := fnExactMirrorTreeRow.holds Try.pinned (OpenSpec.ofChange fnExactMirrorTreeSpec)

/-- ITS FALSE NEIGHBOUR: 'it returns false'. Refute it at one input. -/
def fnExactMirrorTreeWrong : ChangeSpec := { name := "fnExactMirrorTree", fn := fun _ => fun
  | [d] => { results := [.lit (.bool false)], args := [d] }
  | _ => none }
def FnExactMirrorTreeWrongFalsely : Prop := fnExactMirrorTreeRow.holds Try.pinned (OpenSpec.ofChange fnExactMirrorTreeWrong)

/-- 'laws.FnExactAllTrees': WHATEVER THE INPUT: true; the input reads as it did. -/
def fnExactAllTreesSpec : ChangeSpec := { name := "fnExactAllTrees", fn := fun _ => fun
  | [d] => { results := [.lit (.bool true)], args := [d] }
  | _ => none }
def fnExactAllTreesRow : OpenClaim := { program := "ytdpfoeknphiheab", sum := "c90d077e0cd920207b454a24e3c291737d1cc224b3bfc36c786d76ccafdf8712", func := "loop.example/g01161/laws.FnExactAllTrees", spec := "fnExactAllTrees", recurses := true, apart := false }
def FnExactAllTreesSaid : Prop := fnExactAllTreesRow.holds Try.pinned (OpenSpec.ofChange fnExactAllTreesSpec)

/-- ITS FALSE NEIGHBOUR: 'it returns false'. Refute it at one input. -/
def fnExactAllTreesWrong : ChangeSpec := { name := "fnExactAllTrees", fn := fun _ => fun
  | [d] => { results := [.lit (.bool false)], args := [d] }
  | _ => none }
def FnExactAllTreesWrongFalsely : Prop := fnExactAllTreesRow.holds Try.pinned (OpenSpec.ofChange fnExactAllTreesWrong)

/-- 'laws.FnExactCountTrees': WHATEVER THE INPUT: true; the input reads as it did. -/
def fnExactCountTreesSpec : ChangeSpec := { name := "fnExactCountTrees", fn := fun _ => fun
  | [d] => { results := [.lit (.bool true)], args := [d] }
  | _ => none }
def fnExactCountTreesRow : OpenClaim := { program := "ytdpfoeknphiheab", sum := "c90d077e0cd920207b454a24e3c291737d1cc224b3bfc36c786d76ccafdf8712", func := "loop.example/g01161/laws.FnExactCountTrees", spec := "fnExactCountTrees", apart := false }
def FnExactCountTreesSaid : Prop := fnExactCountTreesRow.holds Try.pinned (OpenSpec.ofChange fnExactCountTreesSpec)

/-- ITS FALSE NEIGHBOUR: 'it returns false'. Refute it at one input. -/
def fnExactCountTreesWrong : ChangeSpec := { name := "fnExactCountTrees", fn := fun _ => fun
  | [d] => { results := [.lit (.bool false)], args := [d] }
  | _ => none }
def FnExactCountTreesWrongFalsely : Prop := fnExactCountTreesRow.holds Try.pinned (OpenSpec.ofChange fnExactCountTreesWrong)

/-- 'laws.FnExactRankTree': WHATEVER THE INPUT: true; the input reads as it did. -/
def fnExactRankTreeSpec : ChangeSpec := { name := "fnExactRankTree", fn := fun _ => fun
  | [d] => { results := [.lit (.bool true)], args := [d] }
  | _ => none }
def fnExactRankTreeRow : OpenClaim := { program := "ytdpfoeknphiheab", sum := "c90d077e0cd920207b454a24e3c291737d1cc224b3bfc36c786d76ccafdf8712", func := "loop.example/g01161/laws.FnExactRankTree", spec := "fnExactRankTree", inPlace := ["internal/bytealg.CountString", "internal/bytealg.IndexByteString", "internal/bytealg.IndexString"], recurses := true, named := ["internal/bytealg.MaxLen"], apart := false }
def FnExactRankTreeSaid : Prop := fnExactRankTreeRow.holds Try.pinned (OpenSpec.ofChange fnExactRankTreeSpec)

/-- ITS FALSE NEIGHBOUR: 'it returns false'. Refute it at one input. -/
def fnExactRankTreeWrong : ChangeSpec := { name := "fnExactRankTree", fn := fun _ => fun
  | [d] => { results := [.lit (.bool false)], args := [d] }
  | _ => none }
def FnExactRankTreeWrongFalsely : Prop := fnExactRankTreeRow.holds Try.pinned (OpenSpec.ofChange fnExactRankTreeWrong)

/-- 'laws.FnExactTreeAt': WHATEVER THE INPUT: true; the input reads as it did. -/
def fnExactTreeAtSpec : ChangeSpec := { name := "fnExactTreeAt", fn := fun _ => fun
  | [d1, d2] => { results := [.lit (.bool true)], args := [d1, d2] }
  | _ => none }
def fnExactTreeAtRow : OpenClaim := { program := "ytdpfoeknphiheab", sum := "c90d077e0cd920207b454a24e3c291737d1cc224b3bfc36c786d76ccafdf8712", func := "loop.example/g01161/laws.FnExactTreeAt", spec := "fnExactTreeAt", recurses := true, apart := false }
def FnExactTreeAtSaid : Prop := fnExactTreeAtRow.holds Try.pinned (OpenSpec.ofChange fnExactTreeAtSpec)

/-- ITS FALSE NEIGHBOUR: 'it returns false'. Refute it at one input. -/
def fnExactTreeAtWrong : ChangeSpec := { name := "fnExactTreeAt", fn := fun _ => fun
  | [d1, d2] => { results := [.lit (.bool false)], args := [d1, d2] }
  | _ => none }
def FnExactTreeAtWrongFalsely : Prop := fnExactTreeAtRow.holds Try.pinned (OpenSpec.ofChange fnExactTreeAtWrong)

/- THE SECOND FORM. 'bulk': how many values and letters a reading holds, each counted each time it is reached (what is shared counts as often as it is met; a slice's spare places count too). A statement '..UptoSaid' is the law's where the arguments, and the package variables that the reading takes, are together of bulk at most 1048576: NARROWER than '..Said'. Prove '..Said' where nothing that the law and all that it calls make is longer than what came in: it says more and counts as full. Else prove '..UptoSaid'. A law counts once. -/
mutual
def uptoBulk {H : Type} : DataW H → Nat
  | .lit (.string bytes) => bytes.length + 1
  | .lit _ => 1
  | .nil => 1
  | .ptr d => uptoBulk d + 1
  | .slice elems spare => uptoBulkAll elems + uptoBulkAll spare + 1
  | .agg parts => uptoBulkAll parts + 1
  | .iface _ d => uptoBulk d + 1
  | .map entries => uptoBulkEntries entries + 1
  | .held _ => 1
def uptoBulkAll {H : Type} : List (DataW H) → Nat
  | [] => 0
  | d :: r => uptoBulk d + uptoBulkAll r
def uptoBulkEntries {H : Type} : List (Lit × DataW H) → Nat
  | [] => 0
  | x :: r => uptoBulkEntry x + uptoBulkEntries r
def uptoBulkEntry {H : Type} : Lit × DataW H → Nat
  | (.string bytes, d) => bytes.length + uptoBulk d + 1
  | (_, d) => uptoBulk d + 1
 end
def uptoSmall : (H : Type) → List (DataW H) → Bool := fun _ ds => decide (uptoBulkAll ds ≤ 1048576)
def OpenSpec.upto (s : _root_.Go.ChangeSpec) : _root_.Go.OpenSpec := { _root_.Go.OpenSpec.ofChange s with cond := some uptoSmall }

/-- 'laws.FnExactIsPartOf', WHERE WHAT IT READS IS OF BULK AT MOST 1048576: true; the input reads as it did. -/
def fnExactIsPartOfUptoRow : OpenClaim := { program := "ytdpfoeknphiheab", sum := "c90d077e0cd920207b454a24e3c291737d1cc224b3bfc36c786d76ccafdf8712", func := "loop.example/g01161/laws.FnExactIsPartOf", spec := "fnExactIsPartOf", recurses := true, apart := false, narrowed := true }
def FnExactIsPartOfUptoSaid : Prop := fnExactIsPartOfUptoRow.holds Try.pinned (OpenSpec.upto fnExactIsPartOfSpec)

/-- 'laws.FnExactExposedOf', WHERE WHAT IT READS IS OF BULK AT MOST 1048576: true; the input reads as it did. -/
def fnExactExposedOfUptoRow : OpenClaim := { program := "ytdpfoeknphiheab", sum := "c90d077e0cd920207b454a24e3c291737d1cc224b3bfc36c786d76ccafdf8712", func := "loop.example/g01161/laws.FnExactExposedOf", spec := "fnExactExposedOf", recurses := true, apart := false, narrowed := true }
def FnExactExposedOfUptoSaid : Prop := fnExactExposedOfUptoRow.holds Try.pinned (OpenSpec.upto fnExactExposedOfSpec)

/-- 'laws.FnExactDropExposed', WHERE WHAT IT READS IS OF BULK AT MOST 1048576: true; the input reads as it did. -/
def fnExactDropExposedUptoRow : OpenClaim := { program := "ytdpfoeknphiheab", sum := "c90d077e0cd920207b454a24e3c291737d1cc224b3bfc36c786d76ccafdf8712", func := "loop.example/g01161/laws.FnExactDropExposed", spec := "fnExactDropExposed", recurses := true, apart := false, narrowed := true }
def FnExactDropExposedUptoSaid : Prop := fnExactDropExposedUptoRow.holds Try.pinned (OpenSpec.upto fnExactDropExposedSpec)

/-- 'laws.FnExactRightComb', WHERE WHAT IT READS IS OF BULK AT MOST 1048576: true; the input reads as it did. -/
def fnExactRightCombUptoRow : OpenClaim := { program := "ytdpfoeknphiheab", sum := "c90d077e0cd920207b454a24e3c291737d1cc224b3bfc36c786d76ccafdf8712", func := "loop.example/g01161/laws.FnExactRightComb", spec := "fnExactRightComb", unfollowed := true, recurses := true, apart := false, narrowed := true }
def FnExactRightCombUptoSaid : Prop := fnExactRightCombUptoRow.holds Try.pinned (OpenSpec.upto fnExactRightCombSpec)

/-- 'laws.FnExactLeftComb', WHERE WHAT IT READS IS OF BULK AT MOST 1048576: true; the input reads as it did. -/
def fnExactLeftCombUptoRow : OpenClaim := { program := "ytdpfoeknphiheab", sum := "c90d077e0cd920207b454a24e3c291737d1cc224b3bfc36c786d76ccafdf8712", func := "loop.example/g01161/laws.FnExactLeftComb", spec := "fnExactLeftComb", unfollowed := true, recurses := true, apart := false, narrowed := true }
def FnExactLeftCombUptoSaid : Prop := fnExactLeftCombUptoRow.holds Try.pinned (OpenSpec.upto fnExactLeftCombSpec)

/-- 'laws.FnExactMirrorTree', WHERE WHAT IT READS IS OF BULK AT MOST 1048576: true; the input reads as it did. -/
def fnExactMirrorTreeUptoRow : OpenClaim := { program := "ytdpfoeknphiheab", sum := "c90d077e0cd920207b454a24e3c291737d1cc224b3bfc36c786d76ccafdf8712", func := "loop.example/g01161/laws.FnExactMirrorTree", spec := "fnExactMirrorTree", recurses := true, apart := false, narrowed := true }
def FnExactMirrorTreeUptoSaid : Prop := fnExactMirrorTreeUptoRow.holds Try.pinned (OpenSpec.upto fnExactMirrorTreeSpec)

/-- 'laws.FnExactAllTrees', WHERE WHAT IT READS IS OF BULK AT MOST 1048576: true; the input reads as it did. -/
def fnExactAllTreesUptoRow : OpenClaim := { program := "ytdpfoeknphiheab", sum := "c90d077e0cd920207b454a24e3c291737d1cc224b3bfc36c786d76ccafdf8712", func := "loop.example/g01161/laws.FnExactAllTrees", spec := "fnExactAllTrees", recurses := true, apart := false, narrowed := true }
def FnExactAllTreesUptoSaid : Prop := fnExactAllTreesUptoRow.holds Try.pinned (OpenSpec.upto fnExactAllTreesSpec)

/-- 'laws.FnExactCountTrees', WHERE WHAT IT READS IS OF BULK AT MOST 1048576: true; the input reads as it did. -/
def fnExactCountTreesUptoRow : OpenClaim := { program := "ytdpfoeknphiheab", sum := "c90d077e0cd920207b454a24e3c291737d1cc224b3bfc36c786d76ccafdf8712", func := "loop.example/g01161/laws.FnExactCountTrees", spec := "fnExactCountTrees", apart := false, narrowed := true }
def FnExactCountTreesUptoSaid : Prop := fnExactCountTreesUptoRow.holds Try.pinned (OpenSpec.upto fnExactCountTreesSpec)

/-- 'laws.FnExactRankTree', WHERE WHAT IT READS IS OF BULK AT MOST 1048576: true; the input reads as it did. -/
def fnExactRankTreeUptoRow : OpenClaim := { program := "ytdpfoeknphiheab", sum := "c90d077e0cd920207b454a24e3c291737d1cc224b3bfc36c786d76ccafdf8712", func := "loop.example/g01161/laws.FnExactRankTree", spec := "fnExactRankTree", inPlace := ["internal/bytealg.CountString", "internal/bytealg.IndexByteString", "internal/bytealg.IndexString"], recurses := true, named := ["internal/bytealg.MaxLen"], apart := false, narrowed := true }
def FnExactRankTreeUptoSaid : Prop := fnExactRankTreeUptoRow.holds Try.pinned (OpenSpec.upto fnExactRankTreeSpec)

/-- 'laws.FnExactTreeAt', WHERE WHAT IT READS IS OF BULK AT MOST 1048576: true; the input reads as it did. -/
def fnExactTreeAtUptoRow : OpenClaim := { program := "ytdpfoeknphiheab", sum := "c90d077e0cd920207b454a24e3c291737d1cc224b3bfc36c786d76ccafdf8712", func := "loop.example/g01161/laws.FnExactTreeAt", spec := "fnExactTreeAt", recurses := true, apart := false, narrowed := true }
def FnExactTreeAtUptoSaid : Prop := fnExactTreeAtUptoRow.holds Try.pinned (OpenSpec.upto fnExactTreeAtSpec)

end Rows
end Go.Proofs.Ytdpfoeknphiheab
