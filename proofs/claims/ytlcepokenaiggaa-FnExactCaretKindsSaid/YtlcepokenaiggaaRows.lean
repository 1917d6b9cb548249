/-
  No cell of these rows narrows 'for every input' (looked for: loops, veiled, ifaces, maps, wideKeys, modest, calm, conditions, laid).
  DERIVED. THE GIVEN ROWS OF THIS SEAT. 3 by the template 'for every input the law returns true; each argument reads behind the call as it read before'; 0 by the template 'total and deterministic' (their statements: YtlcepokenaiggaaTotals.lean).
  GIVEN WITH THE SEED: the statements are not yours to turn. If you find one false, say at which input.
  Laid BY PROGRAM, IN A SANDBOX (cutbox-rows.mjs): the forced cells as the released guide's own fill.sh prints them over the translation f1d60ece6637fef0… (all of the seat's roots in one cut). By AI agents, Wed Nov 11 2026. No macro, syntax, notation, axiom, sorry.
-/
import Derived.Test.YtlcepokenaiggaaChecked
import GoSem.Claim
import GoSem.ClaimJoined
import GoSem.ClaimMapViews
import Derived.JoinedTies
import Derived.KernelRfl
namespace Go.Proofs.Ytlcepokenaiggaa
/- THE CELL 'sum', in the pinned program and in every row, IS THE sha256 OF THE DUMP (.gsa) THAT YtlcepokenaiggaaProg.lean LOADS. Nothing in Lean hashes anything: it is a label: what it is worth is what the hold of that sum in a sandbox is worth. -/
noncomputable def Try.pinned : Pinned := { name := "ytlcepokenaiggaa", sum := "f1d60ece6637fef00d7f5c62d030a42cbc0cc3e68d7c87677cc19e283addff71", checked := Try.checked }
namespace Rows
def none {H : Type} : Left H := { results := [], args := [] }

/-- 'laws.FnExactCaretKinds': WHATEVER THE INPUT: true; the input reads as it did. -/
def fnExactCaretKindsSpec : ChangeSpec := { name := "fnExactCaretKinds", fn := fun _ => fun
  | [d] => { results := [.lit (.bool true)], args := [d] }
  | _ => none }
def fnExactCaretKindsRow : OpenClaim := { program := "ytlcepokenaiggaa", sum := "f1d60ece6637fef00d7f5c62d030a42cbc0cc3e68d7c87677cc19e283addff71", func := "loop.example/g01161/laws.FnExactCaretKinds", spec := "fnExactCaretKinds", inPlace := ["internal/bytealg.IndexByteString", "internal/bytealg.IndexString"], unfollowed := true, recurses := true, named := ["internal/bytealg.MaxLen"], plainKeys := false, apart := false }
def FnExactCaretKindsSaid : Prop := fnExactCaretKindsRow.holds Try.pinned (OpenSpec.ofChange fnExactCaretKindsSpec)

/-- ITS FALSE NEIGHBOUR: 'it returns false'. Refute it at one input. -/
def fnExactCaretKindsWrong : ChangeSpec := { name := "fnExactCaretKinds", fn := fun _ => fun
  | [d] => { results := [.lit (.bool false)], args := [d] }
  | _ => none }
def FnExactCaretKindsWrongFalsely : Prop := fnExactCaretKindsRow.holds Try.pinned (OpenSpec.ofChange fnExactCaretKindsWrong)

/-- 'laws.FnExactLengthBySpheres': WHATEVER THE INPUT: true; the input reads as it did. -/
def fnExactLengthBySpheresSpec : ChangeSpec := { name := "fnExactLengthBySpheres", fn := fun _ => fun
  | [d1, d2] => { results := [.lit (.bool true)], args := [d1, d2] }
  | _ => none }
def fnExactLengthBySpheresRow : OpenClaim := { program := "ytlcepokenaiggaa", sum := "f1d60ece6637fef00d7f5c62d030a42cbc0cc3e68d7c87677cc19e283addff71", func := "loop.example/g01161/laws.FnExactLengthBySpheres", spec := "fnExactLengthBySpheres", inPlace := ["internal/bytealg.CountString", "internal/bytealg.IndexByteString", "internal/bytealg.IndexString", "internal/abi.NoEscape"], unfollowed := true, recurses := true, named := ["internal/bytealg.MaxLen"], plainKeys := false, apart := false }
def FnExactLengthBySpheresSaid : Prop := fnExactLengthBySpheresRow.holds Try.pinned (OpenSpec.ofChange fnExactLengthBySpheresSpec)

/-- ITS FALSE NEIGHBOUR: 'it returns false'. Refute it at one input. -/
def fnExactLengthBySpheresWrong : ChangeSpec := { name := "fnExactLengthBySpheres", fn := fun _ => fun
  | [d1, d2] => { results := [.lit (.bool false)], args := [d1, d2] }
  | _ => none }
def FnExactLengthBySpheresWrongFalsely : Prop := fnExactLengthBySpheresRow.holds Try.pinned (OpenSpec.ofChange fnExactLengthBySpheresWrong)

/-- 'laws.FnExactSphereSize': WHATEVER THE INPUT: true; the input reads as it did. -/
def fnExactSphereSizeSpec : ChangeSpec := { name := "fnExactSphereSize", fn := fun _ => fun
  | [d] => { results := [.lit (.bool true)], args := [d] }
  | _ => none }
def fnExactSphereSizeRow : OpenClaim := { program := "ytlcepokenaiggaa", sum := "f1d60ece6637fef00d7f5c62d030a42cbc0cc3e68d7c87677cc19e283addff71", func := "loop.example/g01161/laws.FnExactSphereSize", spec := "fnExactSphereSize", inPlace := ["internal/abi.NoEscape"], unfollowed := true, recurses := true, plainKeys := false, apart := false }
def FnExactSphereSizeSaid : Prop := fnExactSphereSizeRow.holds Try.pinned (OpenSpec.ofChange fnExactSphereSizeSpec)

/-- ITS FALSE NEIGHBOUR: 'it returns false'. Refute it at one input. -/
def fnExactSphereSizeWrong : ChangeSpec := { name := "fnExactSphereSize", fn := fun _ => fun
  | [d] => { results := [.lit (.bool false)], args := [d] }
  | _ => none }
def FnExactSphereSizeWrongFalsely : Prop := fnExactSphereSizeRow.holds Try.pinned (OpenSpec.ofChange fnExactSphereSizeWrong)

/- THE SECOND FORM. 'bulk': how many values and letters a reading holds, each counted each time it is reached (what is shared counts as often as it is met; a slice's spare places count too). A statement '..UptoSaid' is the law's where the arguments, and the package variables that the reading takes, are together of bulk at most 1048576: NARROWER than '..Said'. Prove '..Said' where nothing that the law and all that it calls make is longer than what came in: it says more and counts as full. Else prove '..UptoSaid'. A law counts once. -/
mutual
def uptoBulk {H : Type} : DataW H → Nat
  | .lit (.string bytes) => bytes.length + 1
  | .lit _ => 1
  | .nil => 1
  | .ptr d => uptoBulk d + 1
  | .slice elems spare => uptoBulkAll elems + uptoBulkAll spare + 1
  | .agg parts => uptoBulkAll parts + 1
  | .iface _ d => uptoBulk d + 1
  | .map entries => uptoBulkEntries entries + 1
  | .held _ => 1
def uptoBulkAll {H : Type} : List (DataW H) → Nat
  | [] => 0
  | d :: r => uptoBulk d + uptoBulkAll r
def uptoBulkEntries {H : Type} : List (Lit × DataW H) → Nat
  | [] => 0
  | x :: r => uptoBulkEntry x + uptoBulkEntries r
def uptoBulkEntry {H : Type} : Lit × DataW H → Nat
  | (.string bytes, d) => bytes.length + uptoBulk d + 1
  | (_, d) => uptoBulk d + 1
 end
def uptoSmall : (H : Type) → List (DataW H) → Bool := fun _ ds => decide (uptoBulkAll ds ≤ 1048576)
def OpenSpec.upto (s : _root_.Go.ChangeSpec) : _root_.Go.OpenSpec := { _root_.Go.OpenSpec.ofChange s with cond := some uptoSmall }

/-- 'laws.FnExactCaretKinds', WHERE WHAT IT READS IS OF BULK AT MOST 1048576: true; the input reads as it did. -/
def fnExactCaretKindsUptoRow : OpenClaim := { program := "ytlcepokenaiggaa", sum := "f1d60ece6637fef00d7f5c62d030a42cbc0cc3e68d7c87677cc19e283addff71", func := "loop.example/g01161/laws.FnExactCaretKinds", spec := "fnExactCaretKinds", inPlace := ["internal/bytealg.IndexByteString", "internal/bytealg.IndexString"], unfollowed := true, recurses := true, named := ["internal/bytealg.MaxLen"], plainKeys := false, apart := false, narrowed := true }
def FnExactCaretKindsUptoSaid : Prop := fnExactCaretKindsUptoRow.holds Try.pinned (OpenSpec.upto fnExactCaretKindsSpec)

/-- 'laws.FnExactLengthBySpheres', WHERE WHAT IT READS IS OF BULK AT MOST 1048576: true; the input reads as it did. -/
def fnExactLengthBySpheresUptoRow : OpenClaim := { program := "ytlcepokenaiggaa", sum := "f1d60ece6637fef00d7f5c62d030a42cbc0cc3e68d7c87677cc19e283addff71", func := "loop.example/g01161/laws.FnExactLengthBySpheres", spec := "fnExactLengthBySpheres", inPlace := ["internal/bytealg.CountString", "internal/bytealg.IndexByteString", "internal/bytealg.IndexString", "internal/abi.NoEscape"], unfollowed := true, recurses := true, named := ["internal/bytealg.MaxLen"], plainKeys := false, apart := false, narrowed := true }
def FnExactLengthBySpheresUptoSaid : Prop := fnExactLengthBySpheresUptoRow.holds Try.pinned (OpenSpec.upto fnExactLengthBySpheresSpec)

/-- 'laws.FnExactSphereSize', WHERE WHAT IT READS IS OF BULK AT MOST 1048576: true; the input reads as it did. -/
def fnExactSphereSizeUptoRow : OpenClaim := { program := "ytlcepokenaiggaa", sum := "f1d60ece6637fef00d7f5c62d030a42cbc0cc3e68d7c87677cc19e283addff71", func := "loop.example/g01161/laws.FnExactSphereSize", spec := "fnExactSphereSize", inPlace := ["internal/abi.NoEscape"], unfollowed := true, recurses := true, plainKeys := false, apart := false, narrowed := true }
def FnExactSphereSizeUptoSaid : Prop := fnExactSphereSizeUptoRow.holds Try.pinned (OpenSpec.upto fnExactSphereSizeSpec)

end Rows
end Go.Proofs.Ytlcepokenaiggaa
