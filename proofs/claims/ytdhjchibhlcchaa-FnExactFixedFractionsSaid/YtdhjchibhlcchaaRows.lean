/-
  No cell of these rows narrows 'for every input' (looked for: loops, veiled, ifaces, maps, wideKeys, modest, calm, conditions, laid).
  DERIVED. THE GIVEN ROWS OF THIS SEAT. 8 by the template 'for every input the law returns true; each argument reads behind the call as it read before'; 0 by the template 'total and deterministic' (their statements: YtdhjchibhlcchaaTotals.lean).
  GIVEN WITH THE SEED: the statements are not yours to turn. If you find one false, say at which input.
  Laid BY PROGRAM, IN A SANDBOX (cutbox-rows.mjs): the forced cells as the released guide's own fill.sh prints them over the translation 098bea7b9d0a0d02… (all of the seat's roots in one cut). By AI agents, Wed Nov 11 2026. No macro, syntax, notation, axiom, sorry.
-/
import Derived.Test.YtdhjchibhlcchaaChecked
import GoSem.Claim
import GoSem.ClaimJoined
import GoSem.ClaimMapViews
import Derived.JoinedTies
import Derived.KernelRfl
namespace Go.Proofs.Ytdhjchibhlcchaa
/- THE CELL 'sum', in the pinned program and in every row, IS THE sha256 OF THE DUMP (.gsa) THAT YtdhjchibhlcchaaProg.lean LOADS. Nothing in Lean hashes anything: it is a label: what it is worth is what the hold of that sum in a sandbox is worth. -/
noncomputable def Try.pinned : Pinned := { name := "ytdhjchibhlcchaa", sum := "098bea7b9d0a0d02f1ba131affa2c2383b71741bf4f8420088c243b2e51ba3c9", checked := Try.checked }
namespace Rows
def none {H : Type} : Left H := { results := [], args := [] }

/-- 'laws.FnExactAddressOf': WHATEVER THE INPUT: true; the input reads as it did. -/
def fnExactAddressOfSpec : ChangeSpec := { name := "fnExactAddressOf", fn := fun _ => fun
  | [d1, d2] => { results := [.lit (.bool true)], args := [d1, d2] }
  | _ => none }
def fnExactAddressOfRow : OpenClaim := { program := "ytdhjchibhlcchaa", sum := "098bea7b9d0a0d02f1ba131affa2c2383b71741bf4f8420088c243b2e51ba3c9", func := "loop.example/g01161/laws.FnExactAddressOf", spec := "fnExactAddressOf", apart := false }
def FnExactAddressOfSaid : Prop := fnExactAddressOfRow.holds Try.pinned (OpenSpec.ofChange fnExactAddressOfSpec)

/-- ITS FALSE NEIGHBOUR: 'it returns false'. Refute it at one input. -/
def fnExactAddressOfWrong : ChangeSpec := { name := "fnExactAddressOf", fn := fun _ => fun
  | [d1, d2] => { results := [.lit (.bool false)], args := [d1, d2] }
  | _ => none }
def FnExactAddressOfWrongFalsely : Prop := fnExactAddressOfRow.holds Try.pinned (OpenSpec.ofChange fnExactAddressOfWrong)

/-- 'laws.FnExactValueOf': WHATEVER THE INPUT: true; the input reads as it did. -/
def fnExactValueOfSpec : ChangeSpec := { name := "fnExactValueOf", fn := fun _ => fun
  | [d1, d2] => { results := [.lit (.bool true)], args := [d1, d2] }
  | _ => none }
def fnExactValueOfRow : OpenClaim := { program := "ytdhjchibhlcchaa", sum := "098bea7b9d0a0d02f1ba131affa2c2383b71741bf4f8420088c243b2e51ba3c9", func := "loop.example/g01161/laws.FnExactValueOf", spec := "fnExactValueOf", inPlace := ["internal/bytealg.CountString", "internal/bytealg.IndexByteString", "internal/bytealg.IndexString"], unfollowed := true, recurses := true, named := ["internal/bytealg.MaxLen"], apart := false }
def FnExactValueOfSaid : Prop := fnExactValueOfRow.holds Try.pinned (OpenSpec.ofChange fnExactValueOfSpec)

/-- ITS FALSE NEIGHBOUR: 'it returns false'. Refute it at one input. -/
def fnExactValueOfWrong : ChangeSpec := { name := "fnExactValueOf", fn := fun _ => fun
  | [d1, d2] => { results := [.lit (.bool false)], args := [d1, d2] }
  | _ => none }
def FnExactValueOfWrongFalsely : Prop := fnExactValueOfRow.holds Try.pinned (OpenSpec.ofChange fnExactValueOfWrong)

/-- 'laws.FnExactBreaksOf': WHATEVER THE INPUT: true; the input reads as it did. -/
def fnExactBreaksOfSpec : ChangeSpec := { name := "fnExactBreaksOf", fn := fun _ => fun
  | [d] => { results := [.lit (.bool true)], args := [d] }
  | _ => none }
def fnExactBreaksOfRow : OpenClaim := { program := "ytdhjchibhlcchaa", sum := "098bea7b9d0a0d02f1ba131affa2c2383b71741bf4f8420088c243b2e51ba3c9", func := "loop.example/g01161/laws.FnExactBreaksOf", spec := "fnExactBreaksOf", inPlace := ["internal/bytealg.CountString", "internal/bytealg.IndexByteString", "internal/bytealg.IndexString"], unfollowed := true, recurses := true, named := ["internal/bytealg.MaxLen"], apart := false }
def FnExactBreaksOfSaid : Prop := fnExactBreaksOfRow.holds Try.pinned (OpenSpec.ofChange fnExactBreaksOfSpec)

/-- ITS FALSE NEIGHBOUR: 'it returns false'. Refute it at one input. -/
def fnExactBreaksOfWrong : ChangeSpec := { name := "fnExactBreaksOf", fn := fun _ => fun
  | [d] => { results := [.lit (.bool false)], args := [d] }
  | _ => none }
def FnExactBreaksOfWrongFalsely : Prop := fnExactBreaksOfRow.holds Try.pinned (OpenSpec.ofChange fnExactBreaksOfWrong)

/-- 'laws.FnExactBreakValues': WHATEVER THE INPUT: true; the input reads as it did. -/
def fnExactBreakValuesSpec : ChangeSpec := { name := "fnExactBreakValues", fn := fun _ => fun
  | [d] => { results := [.lit (.bool true)], args := [d] }
  | _ => none }
def fnExactBreakValuesRow : OpenClaim := { program := "ytdhjchibhlcchaa", sum := "098bea7b9d0a0d02f1ba131affa2c2383b71741bf4f8420088c243b2e51ba3c9", func := "loop.example/g01161/laws.FnExactBreakValues", spec := "fnExactBreakValues", inPlace := ["internal/bytealg.CountString", "internal/bytealg.IndexByteString", "internal/bytealg.IndexString"], unfollowed := true, recurses := true, named := ["internal/bytealg.MaxLen"], apart := false }
def FnExactBreakValuesSaid : Prop := fnExactBreakValuesRow.holds Try.pinned (OpenSpec.ofChange fnExactBreakValuesSpec)

/-- ITS FALSE NEIGHBOUR: 'it returns false'. Refute it at one input. -/
def fnExactBreakValuesWrong : ChangeSpec := { name := "fnExactBreakValues", fn := fun _ => fun
  | [d] => { results := [.lit (.bool false)], args := [d] }
  | _ => none }
def FnExactBreakValuesWrongFalsely : Prop := fnExactBreakValuesRow.holds Try.pinned (OpenSpec.ofChange fnExactBreakValuesWrong)

/-- 'laws.FnExactFixedFractions': WHATEVER THE INPUT: true; the input reads as it did. -/
def fnExactFixedFractionsSpec : ChangeSpec := { name := "fnExactFixedFractions", fn := fun _ => fun
  | [d] => { results := [.lit (.bool true)], args := [d] }
  | _ => none }
def fnExactFixedFractionsRow : OpenClaim := { program := "ytdhjchibhlcchaa", sum := "098bea7b9d0a0d02f1ba131affa2c2383b71741bf4f8420088c243b2e51ba3c9", func := "loop.example/g01161/laws.FnExactFixedFractions", spec := "fnExactFixedFractions", inPlace := ["internal/bytealg.CountString", "internal/bytealg.IndexByteString", "internal/bytealg.IndexString"], unfollowed := true, recurses := true, named := ["internal/bytealg.MaxLen"], apart := false }
def FnExactFixedFractionsSaid : Prop := fnExactFixedFractionsRow.holds Try.pinned (OpenSpec.ofChange fnExactFixedFractionsSpec)

/-- ITS FALSE NEIGHBOUR: 'it returns false'. Refute it at one input. -/
def fnExactFixedFractionsWrong : ChangeSpec := { name := "fnExactFixedFractions", fn := fun _ => fun
  | [d] => { results := [.lit (.bool false)], args := [d] }
  | _ => none }
def FnExactFixedFractionsWrongFalsely : Prop := fnExactFixedFractionsRow.holds Try.pinned (OpenSpec.ofChange fnExactFixedFractionsWrong)

/-- 'laws.FnExactIsNormal': WHATEVER THE INPUT: true; the input reads as it did. -/
def fnExactIsNormalSpec : ChangeSpec := { name := "fnExactIsNormal", fn := fun _ => fun
  | [d] => { results := [.lit (.bool true)], args := [d] }
  | _ => none }
def fnExactIsNormalRow : OpenClaim := { program := "ytdhjchibhlcchaa", sum := "098bea7b9d0a0d02f1ba131affa2c2383b71741bf4f8420088c243b2e51ba3c9", func := "loop.example/g01161/laws.FnExactIsNormal", spec := "fnExactIsNormal", unfollowed := true, recurses := true, apart := false }
def FnExactIsNormalSaid : Prop := fnExactIsNormalRow.holds Try.pinned (OpenSpec.ofChange fnExactIsNormalSpec)

/-- ITS FALSE NEIGHBOUR: 'it returns false'. Refute it at one input. -/
def fnExactIsNormalWrong : ChangeSpec := { name := "fnExactIsNormal", fn := fun _ => fun
  | [d] => { results := [.lit (.bool false)], args := [d] }
  | _ => none }
def FnExactIsNormalWrongFalsely : Prop := fnExactIsNormalRow.holds Try.pinned (OpenSpec.ofChange fnExactIsNormalWrong)

/-- 'laws.FnExactRuleStep': WHATEVER THE INPUT: true; the input reads as it did. -/
def fnExactRuleStepSpec : ChangeSpec := { name := "fnExactRuleStep", fn := fun _ => fun
  | [d] => { results := [.lit (.bool true)], args := [d] }
  | _ => none }
def fnExactRuleStepRow : OpenClaim := { program := "ytdhjchibhlcchaa", sum := "098bea7b9d0a0d02f1ba131affa2c2383b71741bf4f8420088c243b2e51ba3c9", func := "loop.example/g01161/laws.FnExactRuleStep", spec := "fnExactRuleStep", unfollowed := true, recurses := true, apart := false }
def FnExactRuleStepSaid : Prop := fnExactRuleStepRow.holds Try.pinned (OpenSpec.ofChange fnExactRuleStepSpec)

/-- ITS FALSE NEIGHBOUR: 'it returns false'. Refute it at one input. -/
def fnExactRuleStepWrong : ChangeSpec := { name := "fnExactRuleStep", fn := fun _ => fun
  | [d] => { results := [.lit (.bool false)], args := [d] }
  | _ => none }
def FnExactRuleStepWrongFalsely : Prop := fnExactRuleStepRow.holds Try.pinned (OpenSpec.ofChange fnExactRuleStepWrong)

/-- 'laws.FnExactDropStep': WHATEVER THE INPUT: true; the input reads as it did. -/
def fnExactDropStepSpec : ChangeSpec := { name := "fnExactDropStep", fn := fun _ => fun
  | [d] => { results := [.lit (.bool true)], args := [d] }
  | _ => none }
def fnExactDropStepRow : OpenClaim := { program := "ytdhjchibhlcchaa", sum := "098bea7b9d0a0d02f1ba131affa2c2383b71741bf4f8420088c243b2e51ba3c9", func := "loop.example/g01161/laws.FnExactDropStep", spec := "fnExactDropStep", unfollowed := true, recurses := true, apart := false }
def FnExactDropStepSaid : Prop := fnExactDropStepRow.holds Try.pinned (OpenSpec.ofChange fnExactDropStepSpec)

/-- ITS FALSE NEIGHBOUR: 'it returns false'. Refute it at one input. -/
def fnExactDropStepWrong : ChangeSpec := { name := "fnExactDropStep", fn := fun _ => fun
  | [d] => { results := [.lit (.bool false)], args := [d] }
  | _ => none }
def FnExactDropStepWrongFalsely : Prop := fnExactDropStepRow.holds Try.pinned (OpenSpec.ofChange fnExactDropStepWrong)

/- THE SECOND FORM. 'bulk': how many values and letters a reading holds, each counted each time it is reached (what is shared counts as often as it is met; a slice's spare places count too). A statement '..UptoSaid' is the law's where the arguments, and the package variables that the reading takes, are together of bulk at most 1048576: NARROWER than '..Said'. Prove '..Said' where nothing that the law and all that it calls make is longer than what came in: it says more and counts as full. Else prove '..UptoSaid'. A law counts once. -/
mutual
def uptoBulk {H : Type} : DataW H → Nat
  | .lit (.string bytes) => bytes.length + 1
  | .lit _ => 1
  | .nil => 1
  | .ptr d => uptoBulk d + 1
  | .slice elems spare => uptoBulkAll elems + uptoBulkAll spare + 1
  | .agg parts => uptoBulkAll parts + 1
  | .iface _ d => uptoBulk d + 1
  | .map entries => uptoBulkEntries entries + 1
  | .held _ => 1
def uptoBulkAll {H : Type} : List (DataW H) → Nat
  | [] => 0
  | d :: r => uptoBulk d + uptoBulkAll r
def uptoBulkEntries {H : Type} : List (Lit × DataW H) → Nat
  | [] => 0
  | x :: r => uptoBulkEntry x + uptoBulkEntries r
def uptoBulkEntry {H : Type} : Lit × DataW H → Nat
  | (.string bytes, d) => bytes.length + uptoBulk d + 1
  | (_, d) => uptoBulk d + 1
 end
def uptoSmall : (H : Type) → List (DataW H) → Bool := fun _ ds => decide (uptoBulkAll ds ≤ 1048576)
def OpenSpec.upto (s : _root_.Go.ChangeSpec) : _root_.Go.OpenSpec := { _root_.Go.OpenSpec.ofChange s with cond := some uptoSmall }

/-- 'laws.FnExactAddressOf', WHERE WHAT IT READS IS OF BULK AT MOST 1048576: true; the input reads as it did. -/
def fnExactAddressOfUptoRow : OpenClaim := { program := "ytdhjchibhlcchaa", sum := "098bea7b9d0a0d02f1ba131affa2c2383b71741bf4f8420088c243b2e51ba3c9", func := "loop.example/g01161/laws.FnExactAddressOf", spec := "fnExactAddressOf", apart := false, narrowed := true }
def FnExactAddressOfUptoSaid : Prop := fnExactAddressOfUptoRow.holds Try.pinned (OpenSpec.upto fnExactAddressOfSpec)

/-- 'laws.FnExactValueOf', WHERE WHAT IT READS IS OF BULK AT MOST 1048576: true; the input reads as it did. -/
def fnExactValueOfUptoRow : OpenClaim := { program := "ytdhjchibhlcchaa", sum := "098bea7b9d0a0d02f1ba131affa2c2383b71741bf4f8420088c243b2e51ba3c9", func := "loop.example/g01161/laws.FnExactValueOf", spec := "fnExactValueOf", inPlace := ["internal/bytealg.CountString", "internal/bytealg.IndexByteString", "internal/bytealg.IndexString"], unfollowed := true, recurses := true, named := ["internal/bytealg.MaxLen"], apart := false, narrowed := true }
def FnExactValueOfUptoSaid : Prop := fnExactValueOfUptoRow.holds Try.pinned (OpenSpec.upto fnExactValueOfSpec)

/-- 'laws.FnExactBreaksOf', WHERE WHAT IT READS IS OF BULK AT MOST 1048576: true; the input reads as it did. -/
def fnExactBreaksOfUptoRow : OpenClaim := { program := "ytdhjchibhlcchaa", sum := "098bea7b9d0a0d02f1ba131affa2c2383b71741bf4f8420088c243b2e51ba3c9", func := "loop.example/g01161/laws.FnExactBreaksOf", spec := "fnExactBreaksOf", inPlace := ["internal/bytealg.CountString", "internal/bytealg.IndexByteString", "internal/bytealg.IndexString"], unfollowed := true, recurses := true, named := ["internal/bytealg.MaxLen"], apart := false, narrowed := true }
def FnExactBreaksOfUptoSaid : Prop := fnExactBreaksOfUptoRow.holds Try.pinned (OpenSpec.upto fnExactBreaksOfSpec)

/-- 'laws.FnExactBreakValues', WHERE WHAT IT READS IS OF BULK AT MOST 1048576: true; the input reads as it did. -/
def fnExactBreakValuesUptoRow : OpenClaim := { program := "ytdhjchibhlcchaa", sum := "098bea7b9d0a0d02f1ba131affa2c2383b71741bf4f8420088c243b2e51ba3c9", func := "loop.example/g01161/laws.FnExactBreakValues", spec := "fnExactBreakValues", inPlace := ["internal/bytealg.CountString", "internal/bytealg.IndexByteString", "internal/bytealg.IndexString"], unfollowed := true, recurses := true, named := ["internal/bytealg.MaxLen"], apart := false, narrowed := true }
def FnExactBreakValuesUptoSaid : Prop := fnExactBreakValuesUptoRow.holds Try.pinned (OpenSpec.upto fnExactBreakValuesSpec)

/-- 'laws.FnExactFixedFractions', WHERE WHAT IT READS IS OF BULK AT MOST 1048576: true; the input reads as it did. -/
def fnExactFixedFractionsUptoRow : OpenClaim := { program := "ytdhjchibhlcchaa", sum := "098bea7b9d0a0d02f1ba131affa2c2383b71741bf4f8420088c243b2e51ba3c9", func := "loop.example/g01161/laws.FnExactFixedFractions", spec := "fnExactFixedFractions", inPlace := ["internal/bytealg.CountString", "internal/bytealg.IndexByteString", "internal/bytealg.IndexString"], unfollowed := true, recurses := true, named := ["internal/bytealg.MaxLen"], apart := false, narrowed := true }
def FnExactFixedFractionsUptoSaid : Prop := fnExactFixedFractionsUptoRow.holds Try.pinned (OpenSpec.upto fnExactFixedFractionsSpec)

/-- 'laws.FnExactIsNormal', WHERE WHAT IT READS IS OF BULK AT MOST 1048576: true; the input reads as it did. -/
def fnExactIsNormalUptoRow : OpenClaim := { program := "ytdhjchibhlcchaa", sum := "098bea7b9d0a0d02f1ba131affa2c2383b71741bf4f8420088c243b2e51ba3c9", func := "loop.example/g01161/laws.FnExactIsNormal", spec := "fnExactIsNormal", unfollowed := true, recurses := true, apart := false, narrowed := true }
def FnExactIsNormalUptoSaid : Prop := fnExactIsNormalUptoRow.holds Try.pinned (OpenSpec.upto fnExactIsNormalSpec)

/-- 'laws.FnExactRuleStep', WHERE WHAT IT READS IS OF BULK AT MOST 1048576: true; the input reads as it did. -/
def fnExactRuleStepUptoRow : OpenClaim := { program := "ytdhjchibhlcchaa", sum := "098bea7b9d0a0d02f1ba131affa2c2383b71741bf4f8420088c243b2e51ba3c9", func := "loop.example/g01161/laws.FnExactRuleStep", spec := "fnExactRuleStep", unfollowed := true, recurses := true, apart := false, narrowed := true }
def FnExactRuleStepUptoSaid : Prop := fnExactRuleStepUptoRow.holds Try.pinned (OpenSpec.upto fnExactRuleStepSpec)

/-- 'laws.FnExactDropStep', WHERE WHAT IT READS IS OF BULK AT MOST 1048576: true; the input reads as it did. -/
def fnExactDropStepUptoRow : OpenClaim := { program := "ytdhjchibhlcchaa", sum := "098bea7b9d0a0d02f1ba131affa2c2383b71741bf4f8420088c243b2e51ba3c9", func := "loop.example/g01161/laws.FnExactDropStep", spec := "fnExactDropStep", unfollowed := true, recurses := true, apart := false, narrowed := true }
def FnExactDropStepUptoSaid : Prop := fnExactDropStepUptoRow.holds Try.pinned (OpenSpec.upto fnExactDropStepSpec)

end Rows
end Go.Proofs.Ytdhjchibhlcchaa
