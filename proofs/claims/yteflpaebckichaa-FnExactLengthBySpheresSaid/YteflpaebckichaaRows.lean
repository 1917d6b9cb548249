/-
  No cell of these rows narrows 'for every input' (looked for: loops, veiled, ifaces, maps, wideKeys, modest, calm, conditions, laid).
  DERIVED. THE GIVEN ROWS OF THIS SEAT. 4 by the template 'for every input the law returns true; each argument reads behind the call as it read before'; 0 by the template 'total and deterministic' (their statements: YteflpaebckichaaTotals.lean).
  GIVEN WITH THE SEED: the statements are not yours to turn. If you find one false, say at which input.
  Laid BY PROGRAM, IN A SANDBOX (cutbox-rows.mjs): the forced cells as the released guide's own fill.sh prints them over the translation 5cda440cbc90af21… (all of the seat's roots in one cut). By AI agents, Wed Nov 11 2026. No macro, syntax, notation, axiom, sorry.
-/
import Derived.Test.YteflpaebckichaaChecked
import GoSem.Claim
import GoSem.ClaimJoined
import GoSem.ClaimMapViews
import Derived.JoinedTies
import Derived.KernelRfl
namespace Go.Proofs.Yteflpaebckichaa
/- THE CELL 'sum', in the pinned program and in every row, IS THE sha256 OF THE DUMP (.gsa) THAT YteflpaebckichaaProg.lean LOADS. Nothing in Lean hashes anything: it is a label: what it is worth is what the hold of that sum in a sandbox is worth. -/
noncomputable def Try.pinned : Pinned := { name := "yteflpaebckichaa", sum := "5cda440cbc90af2100af4f5d58b0c1aaf7032cd41ff8dcb39abf07250a7e4dee", checked := Try.checked }
namespace Rows
def none {H : Type} : Left H := { results := [], args := [] }

/-- 'laws.FnExactLengthBySpheres': WHATEVER THE INPUT: true; the input reads as it did. -/
def fnExactLengthBySpheresSpec : ChangeSpec := { name := "fnExactLengthBySpheres", fn := fun _ => fun
  | [d1, d2] => { results := [.lit (.bool true)], args := [d1, d2] }
  | _ => none }
def fnExactLengthBySpheresRow : OpenClaim := { program := "yteflpaebckichaa", sum := "5cda440cbc90af2100af4f5d58b0c1aaf7032cd41ff8dcb39abf07250a7e4dee", func := "loop.example/g01161/laws.FnExactLengthBySpheres", spec := "fnExactLengthBySpheres", inPlace := ["internal/bytealg.CountString", "internal/bytealg.IndexByteString", "internal/bytealg.IndexString", "internal/abi.NoEscape"], unfollowed := true, recurses := true, named := ["internal/bytealg.MaxLen"], plainKeys := false, apart := false }
def FnExactLengthBySpheresSaid : Prop := fnExactLengthBySpheresRow.holds Try.pinned (OpenSpec.ofChange fnExactLengthBySpheresSpec)

/-- ITS FALSE NEIGHBOUR: 'it returns false'. Refute it at one input. -/
def fnExactLengthBySpheresWrong : ChangeSpec := { name := "fnExactLengthBySpheres", fn := fun _ => fun
  | [d1, d2] => { results := [.lit (.bool false)], args := [d1, d2] }
  | _ => none }
def FnExactLengthBySpheresWrongFalsely : Prop := fnExactLengthBySpheresRow.holds Try.pinned (OpenSpec.ofChange fnExactLengthBySpheresWrong)

/-- 'laws.FnExactSphereSize': WHATEVER THE INPUT: true; the input reads as it did. -/
def fnExactSphereSizeSpec : ChangeSpec := { name := "fnExactSphereSize", fn := fun _ => fun
  | [d] => { results := [.lit (.bool true)], args := [d] }
  | _ => none }
def fnExactSphereSizeRow : OpenClaim := { program := "yteflpaebckichaa", sum := "5cda440cbc90af2100af4f5d58b0c1aaf7032cd41ff8dcb39abf07250a7e4dee", func := "loop.example/g01161/laws.FnExactSphereSize", spec := "fnExactSphereSize", inPlace := ["internal/abi.NoEscape"], unfollowed := true, recurses := true, plainKeys := false, apart := false }
def FnExactSphereSizeSaid : Prop := fnExactSphereSizeRow.holds Try.pinned (OpenSpec.ofChange fnExactSphereSizeSpec)

/-- ITS FALSE NEIGHBOUR: 'it returns false'. Refute it at one input. -/
def fnExactSphereSizeWrong : ChangeSpec := { name := "fnExactSphereSize", fn := fun _ => fun
  | [d] => { results := [.lit (.bool false)], args := [d] }
  | _ => none }
def FnExactSphereSizeWrongFalsely : Prop := fnExactSphereSizeRow.holds Try.pinned (OpenSpec.ofChange fnExactSphereSizeWrong)

/-- 'laws.FnExactFindConjugator': WHATEVER THE INPUT: true; the input reads as it did. -/
def fnExactFindConjugatorSpec : ChangeSpec := { name := "fnExactFindConjugator", fn := fun _ => fun
  | [d1, d2, d3] => { results := [.lit (.bool true)], args := [d1, d2, d3] }
  | _ => none }
def fnExactFindConjugatorRow : OpenClaim := { program := "yteflpaebckichaa", sum := "5cda440cbc90af2100af4f5d58b0c1aaf7032cd41ff8dcb39abf07250a7e4dee", func := "loop.example/g01161/laws.FnExactFindConjugator", spec := "fnExactFindConjugator", inPlace := ["internal/bytealg.CountString", "internal/bytealg.IndexByteString", "internal/bytealg.IndexString", "internal/abi.NoEscape"], unfollowed := true, recurses := true, named := ["internal/bytealg.MaxLen"], plainKeys := false, apart := false }
def FnExactFindConjugatorSaid : Prop := fnExactFindConjugatorRow.holds Try.pinned (OpenSpec.ofChange fnExactFindConjugatorSpec)

/-- ITS FALSE NEIGHBOUR: 'it returns false'. Refute it at one input. -/
def fnExactFindConjugatorWrong : ChangeSpec := { name := "fnExactFindConjugator", fn := fun _ => fun
  | [d1, d2, d3] => { results := [.lit (.bool false)], args := [d1, d2, d3] }
  | _ => none }
def FnExactFindConjugatorWrongFalsely : Prop := fnExactFindConjugatorRow.holds Try.pinned (OpenSpec.ofChange fnExactFindConjugatorWrong)

/-- 'laws.FnExactAreConjugateWithin': WHATEVER THE INPUT: true; the input reads as it did. -/
def fnExactAreConjugateWithinSpec : ChangeSpec := { name := "fnExactAreConjugateWithin", fn := fun _ => fun
  | [d1, d2, d3] => { results := [.lit (.bool true)], args := [d1, d2, d3] }
  | _ => none }
def fnExactAreConjugateWithinRow : OpenClaim := { program := "yteflpaebckichaa", sum := "5cda440cbc90af2100af4f5d58b0c1aaf7032cd41ff8dcb39abf07250a7e4dee", func := "loop.example/g01161/laws.FnExactAreConjugateWithin", spec := "fnExactAreConjugateWithin", inPlace := ["internal/bytealg.CountString", "internal/bytealg.IndexByteString", "internal/bytealg.IndexString", "internal/abi.NoEscape"], unfollowed := true, recurses := true, named := ["internal/bytealg.MaxLen"], plainKeys := false, apart := false }
def FnExactAreConjugateWithinSaid : Prop := fnExactAreConjugateWithinRow.holds Try.pinned (OpenSpec.ofChange fnExactAreConjugateWithinSpec)

/-- ITS FALSE NEIGHBOUR: 'it returns false'. Refute it at one input. -/
def fnExactAreConjugateWithinWrong : ChangeSpec := { name := "fnExactAreConjugateWithin", fn := fun _ => fun
  | [d1, d2, d3] => { results := [.lit (.bool false)], args := [d1, d2, d3] }
  | _ => none }
def FnExactAreConjugateWithinWrongFalsely : Prop := fnExactAreConjugateWithinRow.holds Try.pinned (OpenSpec.ofChange fnExactAreConjugateWithinWrong)

/- THE SECOND FORM. 'bulk': how many values and letters a reading holds, each counted each time it is reached (what is shared counts as often as it is met; a slice's spare places count too). A statement '..UptoSaid' is the law's where the arguments, and the package variables that the reading takes, are together of bulk at most 1048576: NARROWER than '..Said'. Prove '..Said' where nothing that the law and all that it calls make is longer than what came in: it says more and counts as full. Else prove '..UptoSaid'. A law counts once. -/
mutual
def uptoBulk {H : Type} : DataW H → Nat
  | .lit (.string bytes) => bytes.length + 1
  | .lit _ => 1
  | .nil => 1
  | .ptr d => uptoBulk d + 1
  | .slice elems spare => uptoBulkAll elems + uptoBulkAll spare + 1
  | .agg parts => uptoBulkAll parts + 1
  | .iface _ d => uptoBulk d + 1
  | .map entries => uptoBulkEntries entries + 1
  | .held _ => 1
def uptoBulkAll {H : Type} : List (DataW H) → Nat
  | [] => 0
  | d :: r => uptoBulk d + uptoBulkAll r
def uptoBulkEntries {H : Type} : List (Lit × DataW H) → Nat
  | [] => 0
  | x :: r => uptoBulkEntry x + uptoBulkEntries r
def uptoBulkEntry {H : Type} : Lit × DataW H → Nat
  | (.string bytes, d) => bytes.length + uptoBulk d + 1
  | (_, d) => uptoBulk d + 1
 end
def uptoSmall : (H : Type) → List (DataW H) → Bool := fun _ ds => decide (uptoBulkAll ds ≤ 1048576)
def OpenSpec.upto (s : _root_.Go.ChangeSpec) : _root_.Go.OpenSpec := { _root_.Go.OpenSpec.ofChange s with cond := some uptoSmall }

/-- 'laws.FnExactLengthBySpheres', WHERE WHAT IT READS IS OF BULK AT MOST 1048576: true; the input reads as it did. -/
def fnExactLengthBySpheresUptoRow : OpenClaim := { program := "yteflpaebckichaa", sum := "5cda440cbc90af2100af4f5d58b0c1aaf7032cd41ff8dcb39abf07250a7e4dee", func := "loop.example/g01161/laws.FnExactLengthBySpheres", spec := "fnExactLengthBySpheres", inPlace := ["internal/bytealg.CountString", "internal/bytealg.IndexByteString", "internal/bytealg.IndexString", "internal/abi.NoEscape"], unfollowed := true, recurses := true, named := ["internal/bytealg.MaxLen"], plainKeys := false, apart := false, narrowed := true }
def FnExactLengthBySpheresUptoSaid : Prop := fnExactLengthBySpheresUptoRow.holds Try.pinned (OpenSpec.upto fnExactLengthBySpheresSpec)

/-- 'laws.FnExactSphereSize', WHERE WHAT IT READS IS OF BULK AT MOST 1048576: true; the input reads as it did. -/
def fnExactSphereSizeUptoRow : OpenClaim := { program := "yteflpaebckichaa", sum := "5cda440cbc90af2100af4f5d58b0c1aaf7032cd41ff8dcb39abf07250a7e4dee", func := "loop.example/g01161/laws.FnExactSphereSize", spec := "fnExactSphereSize", inPlace := ["internal/abi.NoEscape"], unfollowed := true, recurses := true, plainKeys := false, apart := false, narrowed := true }
def FnExactSphereSizeUptoSaid : Prop := fnExactSphereSizeUptoRow.holds Try.pinned (OpenSpec.upto fnExactSphereSizeSpec)

/-- 'laws.FnExactFindConjugator', WHERE WHAT IT READS IS OF BULK AT MOST 1048576: true; the input reads as it did. -/
def fnExactFindConjugatorUptoRow : OpenClaim := { program := "yteflpaebckichaa", sum := "5cda440cbc90af2100af4f5d58b0c1aaf7032cd41ff8dcb39abf07250a7e4dee", func := "loop.example/g01161/laws.FnExactFindConjugator", spec := "fnExactFindConjugator", inPlace := ["internal/bytealg.CountString", "internal/bytealg.IndexByteString", "internal/bytealg.IndexString", "internal/abi.NoEscape"], unfollowed := true, recurses := true, named := ["internal/bytealg.MaxLen"], plainKeys := false, apart := false, narrowed := true }
def FnExactFindConjugatorUptoSaid : Prop := fnExactFindConjugatorUptoRow.holds Try.pinned (OpenSpec.upto fnExactFindConjugatorSpec)

/-- 'laws.FnExactAreConjugateWithin', WHERE WHAT IT READS IS OF BULK AT MOST 1048576: true; the input reads as it did. -/
def fnExactAreConjugateWithinUptoRow : OpenClaim := { program := "yteflpaebckichaa", sum := "5cda440cbc90af2100af4f5d58b0c1aaf7032cd41ff8dcb39abf07250a7e4dee", func := "loop.example/g01161/laws.FnExactAreConjugateWithin", spec := "fnExactAreConjugateWithin", inPlace := ["internal/bytealg.CountString", "internal/bytealg.IndexByteString", "internal/bytealg.IndexString", "internal/abi.NoEscape"], unfollowed := true, recurses := true, named := ["internal/bytealg.MaxLen"], plainKeys := false, apart := false, narrowed := true }
def FnExactAreConjugateWithinUptoSaid : Prop := fnExactAreConjugateWithinUptoRow.holds Try.pinned (OpenSpec.upto fnExactAreConjugateWithinSpec)

end Rows
end Go.Proofs.Yteflpaebckichaa
