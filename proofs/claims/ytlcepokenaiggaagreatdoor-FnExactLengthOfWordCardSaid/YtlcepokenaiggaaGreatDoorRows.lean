/-
  NARROWER THAN 'FOR EVERY INPUT', by the rows' own cells (each row's printed sentence says how): FnExactNextLengths: laid · FnExactIsDeadEnd: laid · FnExactLengthOfWord: laid · FnExactCountShortest: laid.
  DERIVED. THE GIVEN ROWS OF THIS SEAT. 4 by the template 'for every input the law returns true; each argument reads behind the call as it read before'; 0 by the template 'total and deterministic' (their statements: YtlcepokenaiggaaGreatDoorTotals.lean).
  GIVEN WITH THE SEED: the statements are not yours to turn. If you find one false, say at which input.
  Laid BY PROGRAM, IN A SANDBOX (cutbox-rows.mjs): the forced cells as the released guide's own fill.sh prints them over the translation 41d47a987123be68… (all of the seat's roots in one cut). By AI agents, Wed Nov 11 2026. No macro, syntax, notation, axiom, sorry.
-/
import Derived.Test.YtlcepokenaiggaaGreatDoorChecked
import GoSem.Claim
import GoSem.ClaimJoined
import GoSem.ClaimMapViews
import Derived.JoinedTies
import Derived.KernelRfl
namespace Go.Proofs.YtlcepokenaiggaaGreatDoor
/- THE CELL 'sum', in the pinned program and in every row, IS THE sha256 OF THE DUMP (.gsa) THAT YtlcepokenaiggaaGreatDoorProg.lean LOADS. Nothing in Lean hashes anything: it is a label: what it is worth is what the hold of that sum in a sandbox is worth. -/
noncomputable def Tryz.pinned : Pinned := { name := "ytlcepokenaiggaagreatdoor", sum := "41d47a987123be68cf7da9985b15d9a7eeca9f21fded6f87d82da9e064847f3a", checked := Tryz.checked }
namespace Rows
def none {H : Type} : Left H := { results := [], args := [] }

/- WHAT THE LISTED PACKAGE-LEVEL VARIABLES READ AS WHEN THE CALL BEGINS. Each datum BY PROGRAM (the guide's laid-datum.mjs) off the statement by which the dump's own 'gosem.cut.vars' lays the variable. In a bare row this is a premise. The card (YtlcepokenaiggaaGreatDoorCards.lean) ties it to the program's text. -/
def laid_loop_example_g01161_impl_kindLengths {H : Type} : DataW H := .agg [.agg [.lit (.int .i64 0), .lit (.int .i64 2), .lit (.int .i64 2), .lit (.int .i64 1), .lit (.int .i64 1), .lit (.int .i64 3)], .agg [.lit (.int .i64 2), .lit (.int .i64 2), .lit (.int .i64 2), .lit (.int .i64 1), .lit (.int .i64 1), .lit (.int .i64 3)], .agg [.lit (.int .i64 2), .lit (.int .i64 2), .lit (.int .i64 2), .lit (.int .i64 1), .lit (.int .i64 3), .lit (.int .i64 3)], .agg [.lit (.int .i64 1), .lit (.int .i64 1), .lit (.int .i64 1), .lit (.int .i64 2), .lit (.int .i64 2), .lit (.int .i64 2)], .agg [.lit (.int .i64 1), .lit (.int .i64 1), .lit (.int .i64 3), .lit (.int .i64 2), .lit (.int .i64 2), .lit (.int .i64 4)], .agg [.lit (.int .i64 3), .lit (.int .i64 3), .lit (.int .i64 3), .lit (.int .i64 2), .lit (.int .i64 4), .lit (.int .i64 4)]]

/-- 'laws.FnExactNextLengths': WHATEVER THE INPUT: true; the input reads as it did. -/
def fnExactNextLengthsSpec : ChangeSpec := { name := "fnExactNextLengths", vars := ["loop.example/g01161/impl.kindLengths"], fn := fun _ => fun
  | [d, g1] => { results := [.lit (.bool true)], args := [d], vars := [g1] }
  | _ => none }
def fnExactNextLengthsRow : OpenClaim := { program := "ytlcepokenaiggaagreatdoor", sum := "41d47a987123be68cf7da9985b15d9a7eeca9f21fded6f87d82da9e064847f3a", func := "loop.example/g01161/laws.FnExactNextLengths", spec := "fnExactNextLengths", inPlace := ["internal/bytealg.CountString", "internal/bytealg.IndexByteString", "internal/bytealg.IndexString", "internal/abi.NoEscape"], unfollowed := true, recurses := true, named := ["internal/bytealg.MaxLen", "loop.example/g01161/impl.kindLengths"], plainKeys := false, apart := false, laid := [("loop.example/g01161/impl.kindLengths", laid_loop_example_g01161_impl_kindLengths)] }
def FnExactNextLengthsSaid : Prop := fnExactNextLengthsRow.holds Tryz.pinned (OpenSpec.ofChange fnExactNextLengthsSpec)

/-- ITS FALSE NEIGHBOUR: 'it returns false'. Refute it at one input. -/
def fnExactNextLengthsWrong : ChangeSpec := { name := "fnExactNextLengths", vars := ["loop.example/g01161/impl.kindLengths"], fn := fun _ => fun
  | [d, g1] => { results := [.lit (.bool false)], args := [d], vars := [g1] }
  | _ => none }
def FnExactNextLengthsWrongFalsely : Prop := fnExactNextLengthsRow.holds Tryz.pinned (OpenSpec.ofChange fnExactNextLengthsWrong)

/-- 'laws.FnExactIsDeadEnd': WHATEVER THE INPUT: true; the input reads as it did. -/
def fnExactIsDeadEndSpec : ChangeSpec := { name := "fnExactIsDeadEnd", vars := ["loop.example/g01161/impl.kindLengths"], fn := fun _ => fun
  | [d, g1] => { results := [.lit (.bool true)], args := [d], vars := [g1] }
  | _ => none }
def fnExactIsDeadEndRow : OpenClaim := { program := "ytlcepokenaiggaagreatdoor", sum := "41d47a987123be68cf7da9985b15d9a7eeca9f21fded6f87d82da9e064847f3a", func := "loop.example/g01161/laws.FnExactIsDeadEnd", spec := "fnExactIsDeadEnd", inPlace := ["internal/bytealg.CountString", "internal/bytealg.IndexByteString", "internal/bytealg.IndexString", "internal/abi.NoEscape"], unfollowed := true, recurses := true, named := ["internal/bytealg.MaxLen", "loop.example/g01161/impl.kindLengths"], plainKeys := false, apart := false, laid := [("loop.example/g01161/impl.kindLengths", laid_loop_example_g01161_impl_kindLengths)] }
def FnExactIsDeadEndSaid : Prop := fnExactIsDeadEndRow.holds Tryz.pinned (OpenSpec.ofChange fnExactIsDeadEndSpec)

/-- ITS FALSE NEIGHBOUR: 'it returns false'. Refute it at one input. -/
def fnExactIsDeadEndWrong : ChangeSpec := { name := "fnExactIsDeadEnd", vars := ["loop.example/g01161/impl.kindLengths"], fn := fun _ => fun
  | [d, g1] => { results := [.lit (.bool false)], args := [d], vars := [g1] }
  | _ => none }
def FnExactIsDeadEndWrongFalsely : Prop := fnExactIsDeadEndRow.holds Tryz.pinned (OpenSpec.ofChange fnExactIsDeadEndWrong)

/-- 'laws.FnExactLengthOfWord': WHATEVER THE INPUT: true; the input reads as it did. -/
def fnExactLengthOfWordSpec : ChangeSpec := { name := "fnExactLengthOfWord", vars := ["loop.example/g01161/impl.kindLengths"], fn := fun _ => fun
  | [d, g1] => { results := [.lit (.bool true)], args := [d], vars := [g1] }
  | _ => none }
def fnExactLengthOfWordRow : OpenClaim := { program := "ytlcepokenaiggaagreatdoor", sum := "41d47a987123be68cf7da9985b15d9a7eeca9f21fded6f87d82da9e064847f3a", func := "loop.example/g01161/laws.FnExactLengthOfWord", spec := "fnExactLengthOfWord", inPlace := ["internal/abi.NoEscape", "internal/bytealg.IndexByteString", "internal/bytealg.IndexString"], unfollowed := true, recurses := true, named := ["internal/bytealg.MaxLen", "loop.example/g01161/impl.kindLengths"], plainKeys := false, apart := false, laid := [("loop.example/g01161/impl.kindLengths", laid_loop_example_g01161_impl_kindLengths)] }
def FnExactLengthOfWordSaid : Prop := fnExactLengthOfWordRow.holds Tryz.pinned (OpenSpec.ofChange fnExactLengthOfWordSpec)

/-- ITS FALSE NEIGHBOUR: 'it returns false'. Refute it at one input. -/
def fnExactLengthOfWordWrong : ChangeSpec := { name := "fnExactLengthOfWord", vars := ["loop.example/g01161/impl.kindLengths"], fn := fun _ => fun
  | [d, g1] => { results := [.lit (.bool false)], args := [d], vars := [g1] }
  | _ => none }
def FnExactLengthOfWordWrongFalsely : Prop := fnExactLengthOfWordRow.holds Tryz.pinned (OpenSpec.ofChange fnExactLengthOfWordWrong)

/-- 'laws.FnExactCountShortest': WHATEVER THE INPUT: true; the input reads as it did. -/
def fnExactCountShortestSpec : ChangeSpec := { name := "fnExactCountShortest", vars := ["loop.example/g01161/impl.kindLengths"], fn := fun _ => fun
  | [d, g1] => { results := [.lit (.bool true)], args := [d], vars := [g1] }
  | _ => none }
def fnExactCountShortestRow : OpenClaim := { program := "ytlcepokenaiggaagreatdoor", sum := "41d47a987123be68cf7da9985b15d9a7eeca9f21fded6f87d82da9e064847f3a", func := "loop.example/g01161/laws.FnExactCountShortest", spec := "fnExactCountShortest", inPlace := ["internal/bytealg.CountString", "internal/bytealg.IndexByteString", "internal/bytealg.IndexString", "internal/abi.NoEscape"], unfollowed := true, recurses := true, named := ["internal/bytealg.MaxLen", "loop.example/g01161/impl.kindLengths"], plainKeys := false, apart := false, laid := [("loop.example/g01161/impl.kindLengths", laid_loop_example_g01161_impl_kindLengths)] }
def FnExactCountShortestSaid : Prop := fnExactCountShortestRow.holds Tryz.pinned (OpenSpec.ofChange fnExactCountShortestSpec)

/-- ITS FALSE NEIGHBOUR: 'it returns false'. Refute it at one input. -/
def fnExactCountShortestWrong : ChangeSpec := { name := "fnExactCountShortest", vars := ["loop.example/g01161/impl.kindLengths"], fn := fun _ => fun
  | [d, g1] => { results := [.lit (.bool false)], args := [d], vars := [g1] }
  | _ => none }
def FnExactCountShortestWrongFalsely : Prop := fnExactCountShortestRow.holds Tryz.pinned (OpenSpec.ofChange fnExactCountShortestWrong)

/- THE SECOND FORM. 'bulk': how many values and letters a reading holds, each counted each time it is reached (what is shared counts as often as it is met; a slice's spare places count too). A statement '..UptoSaid' is the law's where the arguments, and the package variables that the reading takes, are together of bulk at most 1048576: NARROWER than '..Said'. Prove '..Said' where nothing that the law and all that it calls make is longer than what came in: it says more and counts as full. Else prove '..UptoSaid'. A law counts once. -/
mutual
def uptoBulk {H : Type} : DataW H → Nat
  | .lit (.string bytes) => bytes.length + 1
  | .lit _ => 1
  | .nil => 1
  | .ptr d => uptoBulk d + 1
  | .slice elems spare => uptoBulkAll elems + uptoBulkAll spare + 1
  | .agg parts => uptoBulkAll parts + 1
  | .iface _ d => uptoBulk d + 1
  | .map entries => uptoBulkEntries entries + 1
  | .held _ => 1
def uptoBulkAll {H : Type} : List (DataW H) → Nat
  | [] => 0
  | d :: r => uptoBulk d + uptoBulkAll r
def uptoBulkEntries {H : Type} : List (Lit × DataW H) → Nat
  | [] => 0
  | x :: r => uptoBulkEntry x + uptoBulkEntries r
def uptoBulkEntry {H : Type} : Lit × DataW H → Nat
  | (.string bytes, d) => bytes.length + uptoBulk d + 1
  | (_, d) => uptoBulk d + 1
 end
def uptoSmall : (H : Type) → List (DataW H) → Bool := fun _ ds => decide (uptoBulkAll ds ≤ 1048576)
def OpenSpec.upto (s : _root_.Go.ChangeSpec) : _root_.Go.OpenSpec := { _root_.Go.OpenSpec.ofChange s with cond := some uptoSmall }

/-- 'laws.FnExactNextLengths', WHERE WHAT IT READS IS OF BULK AT MOST 1048576: true; the input reads as it did. -/
def fnExactNextLengthsUptoRow : OpenClaim := { program := "ytlcepokenaiggaagreatdoor", sum := "41d47a987123be68cf7da9985b15d9a7eeca9f21fded6f87d82da9e064847f3a", func := "loop.example/g01161/laws.FnExactNextLengths", spec := "fnExactNextLengths", inPlace := ["internal/bytealg.CountString", "internal/bytealg.IndexByteString", "internal/bytealg.IndexString", "internal/abi.NoEscape"], unfollowed := true, recurses := true, named := ["internal/bytealg.MaxLen", "loop.example/g01161/impl.kindLengths"], plainKeys := false, apart := false, laid := [("loop.example/g01161/impl.kindLengths", laid_loop_example_g01161_impl_kindLengths)], narrowed := true }
def FnExactNextLengthsUptoSaid : Prop := fnExactNextLengthsUptoRow.holds Tryz.pinned (OpenSpec.upto fnExactNextLengthsSpec)

/-- 'laws.FnExactIsDeadEnd', WHERE WHAT IT READS IS OF BULK AT MOST 1048576: true; the input reads as it did. -/
def fnExactIsDeadEndUptoRow : OpenClaim := { program := "ytlcepokenaiggaagreatdoor", sum := "41d47a987123be68cf7da9985b15d9a7eeca9f21fded6f87d82da9e064847f3a", func := "loop.example/g01161/laws.FnExactIsDeadEnd", spec := "fnExactIsDeadEnd", inPlace := ["internal/bytealg.CountString", "internal/bytealg.IndexByteString", "internal/bytealg.IndexString", "internal/abi.NoEscape"], unfollowed := true, recurses := true, named := ["internal/bytealg.MaxLen", "loop.example/g01161/impl.kindLengths"], plainKeys := false, apart := false, laid := [("loop.example/g01161/impl.kindLengths", laid_loop_example_g01161_impl_kindLengths)], narrowed := true }
def FnExactIsDeadEndUptoSaid : Prop := fnExactIsDeadEndUptoRow.holds Tryz.pinned (OpenSpec.upto fnExactIsDeadEndSpec)

/-- 'laws.FnExactLengthOfWord', WHERE WHAT IT READS IS OF BULK AT MOST 1048576: true; the input reads as it did. -/
def fnExactLengthOfWordUptoRow : OpenClaim := { program := "ytlcepokenaiggaagreatdoor", sum := "41d47a987123be68cf7da9985b15d9a7eeca9f21fded6f87d82da9e064847f3a", func := "loop.example/g01161/laws.FnExactLengthOfWord", spec := "fnExactLengthOfWord", inPlace := ["internal/abi.NoEscape", "internal/bytealg.IndexByteString", "internal/bytealg.IndexString"], unfollowed := true, recurses := true, named := ["internal/bytealg.MaxLen", "loop.example/g01161/impl.kindLengths"], plainKeys := false, apart := false, laid := [("loop.example/g01161/impl.kindLengths", laid_loop_example_g01161_impl_kindLengths)], narrowed := true }
def FnExactLengthOfWordUptoSaid : Prop := fnExactLengthOfWordUptoRow.holds Tryz.pinned (OpenSpec.upto fnExactLengthOfWordSpec)

/-- 'laws.FnExactCountShortest', WHERE WHAT IT READS IS OF BULK AT MOST 1048576: true; the input reads as it did. -/
def fnExactCountShortestUptoRow : OpenClaim := { program := "ytlcepokenaiggaagreatdoor", sum := "41d47a987123be68cf7da9985b15d9a7eeca9f21fded6f87d82da9e064847f3a", func := "loop.example/g01161/laws.FnExactCountShortest", spec := "fnExactCountShortest", inPlace := ["internal/bytealg.CountString", "internal/bytealg.IndexByteString", "internal/bytealg.IndexString", "internal/abi.NoEscape"], unfollowed := true, recurses := true, named := ["internal/bytealg.MaxLen", "loop.example/g01161/impl.kindLengths"], plainKeys := false, apart := false, laid := [("loop.example/g01161/impl.kindLengths", laid_loop_example_g01161_impl_kindLengths)], narrowed := true }
def FnExactCountShortestUptoSaid : Prop := fnExactCountShortestUptoRow.holds Tryz.pinned (OpenSpec.upto fnExactCountShortestSpec)

end Rows
end Go.Proofs.YtlcepokenaiggaaGreatDoor
