/-
  No cell of these rows narrows 'for every input' (looked for: loops, veiled, ifaces, maps, wideKeys, modest, calm, conditions, laid).
  DERIVED. THE GIVEN ROWS OF THIS SEAT. 12 by the template 'for every input the law returns true; each argument reads behind the call as it read before'; 0 by the template 'total and deterministic' (their statements: YtdpfoeknphiheaaTotals.lean).
  GIVEN WITH THE SEED: the statements are not yours to turn. If you find one false, say at which input.
  Laid BY PROGRAM, IN A SANDBOX (cutbox-rows.mjs): the forced cells as the released guide's own fill.sh prints them over the translation 26470bbbfd6afd80… (all of the seat's roots in one cut). By AI agents, Wed Nov 11 2026. No macro, syntax, notation, axiom, sorry.
-/
import Derived.Test.YtdpfoeknphiheaaChecked
import GoSem.Claim
import GoSem.ClaimJoined
import GoSem.ClaimMapViews
import Derived.JoinedTies
import Derived.KernelRfl
namespace Go.Proofs.Ytdpfoeknphiheaa
/- THE CELL 'sum', in the pinned program and in every row, IS THE sha256 OF THE DUMP (.gsa) THAT YtdpfoeknphiheaaProg.lean LOADS. Nothing in Lean hashes anything: it is a label: what it is worth is what the hold of that sum in a sandbox is worth. -/
noncomputable def Try.pinned : Pinned := { name := "ytdpfoeknphiheaa", sum := "26470bbbfd6afd80cb85a163f66f55598f9d617d8a6e763cdeee0e53cc8269a8", checked := Try.checked }
namespace Rows
def none {H : Type} : Left H := { results := [], args := [] }

/-- 'laws.FnTreesByAddresses': WHATEVER THE INPUT: true; the input reads as it did. -/
def fnTreesByAddressesSpec : ChangeSpec := { name := "fnTreesByAddresses", fn := fun _ => fun
  | [d1, d2] => { results := [.lit (.bool true)], args := [d1, d2] }
  | _ => none }
def fnTreesByAddressesRow : OpenClaim := { program := "ytdpfoeknphiheaa", sum := "26470bbbfd6afd80cb85a163f66f55598f9d617d8a6e763cdeee0e53cc8269a8", func := "loop.example/g01161/laws.FnTreesByAddresses", spec := "fnTreesByAddresses", inPlace := ["internal/bytealg.CountString", "internal/bytealg.IndexByteString", "internal/bytealg.IndexString"], recurses := true, named := ["internal/bytealg.MaxLen"], apart := false }
def FnTreesByAddressesSaid : Prop := fnTreesByAddressesRow.holds Try.pinned (OpenSpec.ofChange fnTreesByAddressesSpec)

/-- ITS FALSE NEIGHBOUR: 'it returns false'. Refute it at one input. -/
def fnTreesByAddressesWrong : ChangeSpec := { name := "fnTreesByAddresses", fn := fun _ => fun
  | [d1, d2] => { results := [.lit (.bool false)], args := [d1, d2] }
  | _ => none }
def FnTreesByAddressesWrongFalsely : Prop := fnTreesByAddressesRow.holds Try.pinned (OpenSpec.ofChange fnTreesByAddressesWrong)

/-- 'laws.FnTreesJoined': WHATEVER THE INPUT: true; the input reads as it did. -/
def fnTreesJoinedSpec : ChangeSpec := { name := "fnTreesJoined", fn := fun _ => fun
  | [d1, d2] => { results := [.lit (.bool true)], args := [d1, d2] }
  | _ => none }
def fnTreesJoinedRow : OpenClaim := { program := "ytdpfoeknphiheaa", sum := "26470bbbfd6afd80cb85a163f66f55598f9d617d8a6e763cdeee0e53cc8269a8", func := "loop.example/g01161/laws.FnTreesJoined", spec := "fnTreesJoined", inPlace := ["internal/bytealg.CountString", "internal/bytealg.IndexByteString", "internal/bytealg.IndexString"], unfollowed := true, recurses := true, named := ["internal/bytealg.MaxLen"], apart := false }
def FnTreesJoinedSaid : Prop := fnTreesJoinedRow.holds Try.pinned (OpenSpec.ofChange fnTreesJoinedSpec)

/-- ITS FALSE NEIGHBOUR: 'it returns false'. Refute it at one input. -/
def fnTreesJoinedWrong : ChangeSpec := { name := "fnTreesJoined", fn := fun _ => fun
  | [d1, d2] => { results := [.lit (.bool false)], args := [d1, d2] }
  | _ => none }
def FnTreesJoinedWrongFalsely : Prop := fnTreesJoinedRow.holds Try.pinned (OpenSpec.ofChange fnTreesJoinedWrong)

/-- 'laws.FnTreesCounted': WHATEVER THE INPUT: true; the input reads as it did. -/
def fnTreesCountedSpec : ChangeSpec := { name := "fnTreesCounted", fn := fun _ => fun
  | [d1, d2] => { results := [.lit (.bool true)], args := [d1, d2] }
  | _ => none }
def fnTreesCountedRow : OpenClaim := { program := "ytdpfoeknphiheaa", sum := "26470bbbfd6afd80cb85a163f66f55598f9d617d8a6e763cdeee0e53cc8269a8", func := "loop.example/g01161/laws.FnTreesCounted", spec := "fnTreesCounted", inPlace := ["internal/bytealg.CountString", "internal/bytealg.IndexByteString", "internal/bytealg.IndexString"], unfollowed := true, recurses := true, named := ["internal/bytealg.MaxLen"], apart := false }
def FnTreesCountedSaid : Prop := fnTreesCountedRow.holds Try.pinned (OpenSpec.ofChange fnTreesCountedSpec)

/-- ITS FALSE NEIGHBOUR: 'it returns false'. Refute it at one input. -/
def fnTreesCountedWrong : ChangeSpec := { name := "fnTreesCounted", fn := fun _ => fun
  | [d1, d2] => { results := [.lit (.bool false)], args := [d1, d2] }
  | _ => none }
def FnTreesCountedWrongFalsely : Prop := fnTreesCountedRow.holds Try.pinned (OpenSpec.ofChange fnTreesCountedWrong)

/-- 'laws.FnExactIsTree': WHATEVER THE INPUT: true; the input reads as it did. -/
def fnExactIsTreeSpec : ChangeSpec := { name := "fnExactIsTree", fn := fun _ => fun
  | [d] => { results := [.lit (.bool true)], args := [d] }
  | _ => none }
def fnExactIsTreeRow : OpenClaim := { program := "ytdpfoeknphiheaa", sum := "26470bbbfd6afd80cb85a163f66f55598f9d617d8a6e763cdeee0e53cc8269a8", func := "loop.example/g01161/laws.FnExactIsTree", spec := "fnExactIsTree", recurses := true, apart := false }
def FnExactIsTreeSaid : Prop := fnExactIsTreeRow.holds Try.pinned (OpenSpec.ofChange fnExactIsTreeSpec)

/-- ITS FALSE NEIGHBOUR: 'it returns false'. Refute it at one input. -/
def fnExactIsTreeWrong : ChangeSpec := { name := "fnExactIsTree", fn := fun _ => fun
  | [d] => { results := [.lit (.bool false)], args := [d] }
  | _ => none }
def FnExactIsTreeWrongFalsely : Prop := fnExactIsTreeRow.holds Try.pinned (OpenSpec.ofChange fnExactIsTreeWrong)

/-- 'laws.FnExactCaretsOf': WHATEVER THE INPUT: true; the input reads as it did. -/
def fnExactCaretsOfSpec : ChangeSpec := { name := "fnExactCaretsOf", fn := fun _ => fun
  | [d] => { results := [.lit (.bool true)], args := [d] }
  | _ => none }
def fnExactCaretsOfRow : OpenClaim := { program := "ytdpfoeknphiheaa", sum := "26470bbbfd6afd80cb85a163f66f55598f9d617d8a6e763cdeee0e53cc8269a8", func := "loop.example/g01161/laws.FnExactCaretsOf", spec := "fnExactCaretsOf", inPlace := ["internal/bytealg.CountString", "internal/bytealg.IndexByteString", "internal/bytealg.IndexString"], recurses := true, named := ["internal/bytealg.MaxLen"], apart := false }
def FnExactCaretsOfSaid : Prop := fnExactCaretsOfRow.holds Try.pinned (OpenSpec.ofChange fnExactCaretsOfSpec)

/-- ITS FALSE NEIGHBOUR: 'it returns false'. Refute it at one input. -/
def fnExactCaretsOfWrong : ChangeSpec := { name := "fnExactCaretsOf", fn := fun _ => fun
  | [d] => { results := [.lit (.bool false)], args := [d] }
  | _ => none }
def FnExactCaretsOfWrongFalsely : Prop := fnExactCaretsOfRow.holds Try.pinned (OpenSpec.ofChange fnExactCaretsOfWrong)

/-- 'laws.FnExactAddressesOf': WHATEVER THE INPUT: true; the input reads as it did. -/
def fnExactAddressesOfSpec : ChangeSpec := { name := "fnExactAddressesOf", fn := fun _ => fun
  | [d] => { results := [.lit (.bool true)], args := [d] }
  | _ => none }
def fnExactAddressesOfRow : OpenClaim := { program := "ytdpfoeknphiheaa", sum := "26470bbbfd6afd80cb85a163f66f55598f9d617d8a6e763cdeee0e53cc8269a8", func := "loop.example/g01161/laws.FnExactAddressesOf", spec := "fnExactAddressesOf", recurses := true, apart := false }
def FnExactAddressesOfSaid : Prop := fnExactAddressesOfRow.holds Try.pinned (OpenSpec.ofChange fnExactAddressesOfSpec)

/-- ITS FALSE NEIGHBOUR: 'it returns false'. Refute it at one input. -/
def fnExactAddressesOfWrong : ChangeSpec := { name := "fnExactAddressesOf", fn := fun _ => fun
  | [d] => { results := [.lit (.bool false)], args := [d] }
  | _ => none }
def FnExactAddressesOfWrongFalsely : Prop := fnExactAddressesOfRow.holds Try.pinned (OpenSpec.ofChange fnExactAddressesOfWrong)

/-- 'laws.FnExactTreeWith': WHATEVER THE INPUT: true; the input reads as it did. -/
def fnExactTreeWithSpec : ChangeSpec := { name := "fnExactTreeWith", fn := fun _ => fun
  | [d] => { results := [.lit (.bool true)], args := [d] }
  | _ => none }
def fnExactTreeWithRow : OpenClaim := { program := "ytdpfoeknphiheaa", sum := "26470bbbfd6afd80cb85a163f66f55598f9d617d8a6e763cdeee0e53cc8269a8", func := "loop.example/g01161/laws.FnExactTreeWith", spec := "fnExactTreeWith", recurses := true, apart := false }
def FnExactTreeWithSaid : Prop := fnExactTreeWithRow.holds Try.pinned (OpenSpec.ofChange fnExactTreeWithSpec)

/-- ITS FALSE NEIGHBOUR: 'it returns false'. Refute it at one input. -/
def fnExactTreeWithWrong : ChangeSpec := { name := "fnExactTreeWith", fn := fun _ => fun
  | [d] => { results := [.lit (.bool false)], args := [d] }
  | _ => none }
def FnExactTreeWithWrongFalsely : Prop := fnExactTreeWithRow.holds Try.pinned (OpenSpec.ofChange fnExactTreeWithWrong)

/-- 'laws.FnExactDepthsOf': WHATEVER THE INPUT: true; the input reads as it did. -/
def fnExactDepthsOfSpec : ChangeSpec := { name := "fnExactDepthsOf", fn := fun _ => fun
  | [d] => { results := [.lit (.bool true)], args := [d] }
  | _ => none }
def fnExactDepthsOfRow : OpenClaim := { program := "ytdpfoeknphiheaa", sum := "26470bbbfd6afd80cb85a163f66f55598f9d617d8a6e763cdeee0e53cc8269a8", func := "loop.example/g01161/laws.FnExactDepthsOf", spec := "fnExactDepthsOf", recurses := true, apart := false }
def FnExactDepthsOfSaid : Prop := fnExactDepthsOfRow.holds Try.pinned (OpenSpec.ofChange fnExactDepthsOfSpec)

/-- ITS FALSE NEIGHBOUR: 'it returns false'. Refute it at one input. -/
def fnExactDepthsOfWrong : ChangeSpec := { name := "fnExactDepthsOf", fn := fun _ => fun
  | [d] => { results := [.lit (.bool false)], args := [d] }
  | _ => none }
def FnExactDepthsOfWrongFalsely : Prop := fnExactDepthsOfRow.holds Try.pinned (OpenSpec.ofChange fnExactDepthsOfWrong)

/-- 'laws.FnExactSubtreeAt': WHATEVER THE INPUT: true; the input reads as it did. -/
def fnExactSubtreeAtSpec : ChangeSpec := { name := "fnExactSubtreeAt", fn := fun _ => fun
  | [d1, d2] => { results := [.lit (.bool true)], args := [d1, d2] }
  | _ => none }
def fnExactSubtreeAtRow : OpenClaim := { program := "ytdpfoeknphiheaa", sum := "26470bbbfd6afd80cb85a163f66f55598f9d617d8a6e763cdeee0e53cc8269a8", func := "loop.example/g01161/laws.FnExactSubtreeAt", spec := "fnExactSubtreeAt", unfollowed := true, recurses := true, apart := false }
def FnExactSubtreeAtSaid : Prop := fnExactSubtreeAtRow.holds Try.pinned (OpenSpec.ofChange fnExactSubtreeAtSpec)

/-- ITS FALSE NEIGHBOUR: 'it returns false'. Refute it at one input. -/
def fnExactSubtreeAtWrong : ChangeSpec := { name := "fnExactSubtreeAt", fn := fun _ => fun
  | [d1, d2] => { results := [.lit (.bool false)], args := [d1, d2] }
  | _ => none }
def FnExactSubtreeAtWrongFalsely : Prop := fnExactSubtreeAtRow.holds Try.pinned (OpenSpec.ofChange fnExactSubtreeAtWrong)

/-- 'laws.FnExactGraftAt': WHATEVER THE INPUT: true; the input reads as it did. -/
def fnExactGraftAtSpec : ChangeSpec := { name := "fnExactGraftAt", fn := fun _ => fun
  | [d1, d2, d3] => { results := [.lit (.bool true)], args := [d1, d2, d3] }
  | _ => none }
def fnExactGraftAtRow : OpenClaim := { program := "ytdpfoeknphiheaa", sum := "26470bbbfd6afd80cb85a163f66f55598f9d617d8a6e763cdeee0e53cc8269a8", func := "loop.example/g01161/laws.FnExactGraftAt", spec := "fnExactGraftAt", recurses := true, apart := false }
def FnExactGraftAtSaid : Prop := fnExactGraftAtRow.holds Try.pinned (OpenSpec.ofChange fnExactGraftAtSpec)

/-- ITS FALSE NEIGHBOUR: 'it returns false'. Refute it at one input. -/
def fnExactGraftAtWrong : ChangeSpec := { name := "fnExactGraftAt", fn := fun _ => fun
  | [d1, d2, d3] => { results := [.lit (.bool false)], args := [d1, d2, d3] }
  | _ => none }
def FnExactGraftAtWrongFalsely : Prop := fnExactGraftAtRow.holds Try.pinned (OpenSpec.ofChange fnExactGraftAtWrong)

/-- 'laws.FnExactJoinTrees': WHATEVER THE INPUT: true; the input reads as it did. -/
def fnExactJoinTreesSpec : ChangeSpec := { name := "fnExactJoinTrees", fn := fun _ => fun
  | [d1, d2] => { results := [.lit (.bool true)], args := [d1, d2] }
  | _ => none }
def fnExactJoinTreesRow : OpenClaim := { program := "ytdpfoeknphiheaa", sum := "26470bbbfd6afd80cb85a163f66f55598f9d617d8a6e763cdeee0e53cc8269a8", func := "loop.example/g01161/laws.FnExactJoinTrees", spec := "fnExactJoinTrees", recurses := true, apart := false }
def FnExactJoinTreesSaid : Prop := fnExactJoinTreesRow.holds Try.pinned (OpenSpec.ofChange fnExactJoinTreesSpec)

/-- ITS FALSE NEIGHBOUR: 'it returns false'. Refute it at one input. -/
def fnExactJoinTreesWrong : ChangeSpec := { name := "fnExactJoinTrees", fn := fun _ => fun
  | [d1, d2] => { results := [.lit (.bool false)], args := [d1, d2] }
  | _ => none }
def FnExactJoinTreesWrongFalsely : Prop := fnExactJoinTreesRow.holds Try.pinned (OpenSpec.ofChange fnExactJoinTreesWrong)

/-- 'laws.FnExactCommonTree': WHATEVER THE INPUT: true; the input reads as it did. -/
def fnExactCommonTreeSpec : ChangeSpec := { name := "fnExactCommonTree", fn := fun _ => fun
  | [d1, d2] => { results := [.lit (.bool true)], args := [d1, d2] }
  | _ => none }
def fnExactCommonTreeRow : OpenClaim := { program := "ytdpfoeknphiheaa", sum := "26470bbbfd6afd80cb85a163f66f55598f9d617d8a6e763cdeee0e53cc8269a8", func := "loop.example/g01161/laws.FnExactCommonTree", spec := "fnExactCommonTree", recurses := true, apart := false }
def FnExactCommonTreeSaid : Prop := fnExactCommonTreeRow.holds Try.pinned (OpenSpec.ofChange fnExactCommonTreeSpec)

/-- ITS FALSE NEIGHBOUR: 'it returns false'. Refute it at one input. -/
def fnExactCommonTreeWrong : ChangeSpec := { name := "fnExactCommonTree", fn := fun _ => fun
  | [d1, d2] => { results := [.lit (.bool false)], args := [d1, d2] }
  | _ => none }
def FnExactCommonTreeWrongFalsely : Prop := fnExactCommonTreeRow.holds Try.pinned (OpenSpec.ofChange fnExactCommonTreeWrong)

/- THE SECOND FORM. 'bulk': how many values and letters a reading holds, each counted each time it is reached (what is shared counts as often as it is met; a slice's spare places count too). A statement '..UptoSaid' is the law's where the arguments, and the package variables that the reading takes, are together of bulk at most 1048576: NARROWER than '..Said'. Prove '..Said' where nothing that the law and all that it calls make is longer than what came in: it says more and counts as full. Else prove '..UptoSaid'. A law counts once. -/
mutual
def uptoBulk {H : Type} : DataW H → Nat
  | .lit (.string bytes) => bytes.length + 1
  | .lit _ => 1
  | .nil => 1
  | .ptr d => uptoBulk d + 1
  | .slice elems spare => uptoBulkAll elems + uptoBulkAll spare + 1
  | .agg parts => uptoBulkAll parts + 1
  | .iface _ d => uptoBulk d + 1
  | .map entries => uptoBulkEntries entries + 1
  | .held _ => 1
def uptoBulkAll {H : Type} : List (DataW H) → Nat
  | [] => 0
  | d :: r => uptoBulk d + uptoBulkAll r
def uptoBulkEntries {H : Type} : List (Lit × DataW H) → Nat
  | [] => 0
  | x :: r => uptoBulkEntry x + uptoBulkEntries r
def uptoBulkEntry {H : Type} : Lit × DataW H → Nat
  | (.string bytes, d) => bytes.length + uptoBulk d + 1
  | (_, d) => uptoBulk d + 1
 end
def uptoSmall : (H : Type) → List (DataW H) → Bool := fun _ ds => decide (uptoBulkAll ds ≤ 1048576)
def OpenSpec.upto (s : _root_.Go.ChangeSpec) : _root_.Go.OpenSpec := { _root_.Go.OpenSpec.ofChange s with cond := some uptoSmall }

/-- 'laws.FnTreesByAddresses', WHERE WHAT IT READS IS OF BULK AT MOST 1048576: true; the input reads as it did. -/
def fnTreesByAddressesUptoRow : OpenClaim := { program := "ytdpfoeknphiheaa", sum := "26470bbbfd6afd80cb85a163f66f55598f9d617d8a6e763cdeee0e53cc8269a8", func := "loop.example/g01161/laws.FnTreesByAddresses", spec := "fnTreesByAddresses", inPlace := ["internal/bytealg.CountString", "internal/bytealg.IndexByteString", "internal/bytealg.IndexString"], recurses := true, named := ["internal/bytealg.MaxLen"], apart := false, narrowed := true }
def FnTreesByAddressesUptoSaid : Prop := fnTreesByAddressesUptoRow.holds Try.pinned (OpenSpec.upto fnTreesByAddressesSpec)

/-- 'laws.FnTreesJoined', WHERE WHAT IT READS IS OF BULK AT MOST 1048576: true; the input reads as it did. -/
def fnTreesJoinedUptoRow : OpenClaim := { program := "ytdpfoeknphiheaa", sum := "26470bbbfd6afd80cb85a163f66f55598f9d617d8a6e763cdeee0e53cc8269a8", func := "loop.example/g01161/laws.FnTreesJoined", spec := "fnTreesJoined", inPlace := ["internal/bytealg.CountString", "internal/bytealg.IndexByteString", "internal/bytealg.IndexString"], unfollowed := true, recurses := true, named := ["internal/bytealg.MaxLen"], apart := false, narrowed := true }
def FnTreesJoinedUptoSaid : Prop := fnTreesJoinedUptoRow.holds Try.pinned (OpenSpec.upto fnTreesJoinedSpec)

/-- 'laws.FnTreesCounted', WHERE WHAT IT READS IS OF BULK AT MOST 1048576: true; the input reads as it did. -/
def fnTreesCountedUptoRow : OpenClaim := { program := "ytdpfoeknphiheaa", sum := "26470bbbfd6afd80cb85a163f66f55598f9d617d8a6e763cdeee0e53cc8269a8", func := "loop.example/g01161/laws.FnTreesCounted", spec := "fnTreesCounted", inPlace := ["internal/bytealg.CountString", "internal/bytealg.IndexByteString", "internal/bytealg.IndexString"], unfollowed := true, recurses := true, named := ["internal/bytealg.MaxLen"], apart := false, narrowed := true }
def FnTreesCountedUptoSaid : Prop := fnTreesCountedUptoRow.holds Try.pinned (OpenSpec.upto fnTreesCountedSpec)

/-- 'laws.FnExactIsTree', WHERE WHAT IT READS IS OF BULK AT MOST 1048576: true; the input reads as it did. -/
def fnExactIsTreeUptoRow : OpenClaim := { program := "ytdpfoeknphiheaa", sum := "26470bbbfd6afd80cb85a163f66f55598f9d617d8a6e763cdeee0e53cc8269a8", func := "loop.example/g01161/laws.FnExactIsTree", spec := "fnExactIsTree", recurses := true, apart := false, narrowed := true }
def FnExactIsTreeUptoSaid : Prop := fnExactIsTreeUptoRow.holds Try.pinned (OpenSpec.upto fnExactIsTreeSpec)

/-- 'laws.FnExactCaretsOf', WHERE WHAT IT READS IS OF BULK AT MOST 1048576: true; the input reads as it did. -/
def fnExactCaretsOfUptoRow : OpenClaim := { program := "ytdpfoeknphiheaa", sum := "26470bbbfd6afd80cb85a163f66f55598f9d617d8a6e763cdeee0e53cc8269a8", func := "loop.example/g01161/laws.FnExactCaretsOf", spec := "fnExactCaretsOf", inPlace := ["internal/bytealg.CountString", "internal/bytealg.IndexByteString", "internal/bytealg.IndexString"], recurses := true, named := ["internal/bytealg.MaxLen"], apart := false, narrowed := true }
def FnExactCaretsOfUptoSaid : Prop := fnExactCaretsOfUptoRow.holds Try.pinned (OpenSpec.upto fnExactCaretsOfSpec)

/-- 'laws.FnExactAddressesOf', WHERE WHAT IT READS IS OF BULK AT MOST 1048576: true; the input reads as it did. -/
def fnExactAddressesOfUptoRow : OpenClaim := { program := "ytdpfoeknphiheaa", sum := "26470bbbfd6afd80cb85a163f66f55598f9d617d8a6e763cdeee0e53cc8269a8", func := "loop.example/g01161/laws.FnExactAddressesOf", spec := "fnExactAddressesOf", recurses := true, apart := false, narrowed := true }
def FnExactAddressesOfUptoSaid : Prop := fnExactAddressesOfUptoRow.holds Try.pinned (OpenSpec.upto fnExactAddressesOfSpec)

/-- 'laws.FnExactTreeWith', WHERE WHAT IT READS IS OF BULK AT MOST 1048576: true; the input reads as it did. -/
def fnExactTreeWithUptoRow : OpenClaim := { program := "ytdpfoeknphiheaa", sum := "26470bbbfd6afd80cb85a163f66f55598f9d617d8a6e763cdeee0e53cc8269a8", func := "loop.example/g01161/laws.FnExactTreeWith", spec := "fnExactTreeWith", recurses := true, apart := false, narrowed := true }
def FnExactTreeWithUptoSaid : Prop := fnExactTreeWithUptoRow.holds Try.pinned (OpenSpec.upto fnExactTreeWithSpec)

/-- 'laws.FnExactDepthsOf', WHERE WHAT IT READS IS OF BULK AT MOST 1048576: true; the input reads as it did. -/
def fnExactDepthsOfUptoRow : OpenClaim := { program := "ytdpfoeknphiheaa", sum := "26470bbbfd6afd80cb85a163f66f55598f9d617d8a6e763cdeee0e53cc8269a8", func := "loop.example/g01161/laws.FnExactDepthsOf", spec := "fnExactDepthsOf", recurses := true, apart := false, narrowed := true }
def FnExactDepthsOfUptoSaid : Prop := fnExactDepthsOfUptoRow.holds Try.pinned (OpenSpec.upto fnExactDepthsOfSpec)

/-- 'laws.FnExactSubtreeAt', WHERE WHAT IT READS IS OF BULK AT MOST 1048576: true; the input reads as it did. -/
def fnExactSubtreeAtUptoRow : OpenClaim := { program := "ytdpfoeknphiheaa", sum := "26470bbbfd6afd80cb85a163f66f55598f9d617d8a6e763cdeee0e53cc8269a8", func := "loop.example/g01161/laws.FnExactSubtreeAt", spec := "fnExactSubtreeAt", unfollowed := true, recurses := true, apart := false, narrowed := true }
def FnExactSubtreeAtUptoSaid : Prop := fnExactSubtreeAtUptoRow.holds Try.pinned (OpenSpec.upto fnExactSubtreeAtSpec)

/-- 'laws.FnExactGraftAt', WHERE WHAT IT READS IS OF BULK AT MOST 1048576: true; the input reads as it did. -/
def fnExactGraftAtUptoRow : OpenClaim := { program := "ytdpfoeknphiheaa", sum := "26470bbbfd6afd80cb85a163f66f55598f9d617d8a6e763cdeee0e53cc8269a8", func := "loop.example/g01161/laws.FnExactGraftAt", spec := "fnExactGraftAt", recurses := true, apart := false, narrowed := true }
def FnExactGraftAtUptoSaid : Prop := fnExactGraftAtUptoRow.holds Try.pinned (OpenSpec.upto fnExactGraftAtSpec)

/-- 'laws.FnExactJoinTrees', WHERE WHAT IT READS IS OF BULK AT MOST 1048576: true; the input reads as it did. -/
def fnExactJoinTreesUptoRow : OpenClaim := { program := "ytdpfoeknphiheaa", sum := "26470bbbfd6afd80cb85a163f66f55598f9d617d8a6e763cdeee0e53cc8269a8", func := "loop.example/g01161/laws.FnExactJoinTrees", spec := "fnExactJoinTrees", recurses := true, apart := false, narrowed := true }
def FnExactJoinTreesUptoSaid : Prop := fnExactJoinTreesUptoRow.holds Try.pinned (OpenSpec.upto fnExactJoinTreesSpec)

/-- 'laws.FnExactCommonTree', WHERE WHAT IT READS IS OF BULK AT MOST 1048576: true; the input reads as it did. -/
def fnExactCommonTreeUptoRow : OpenClaim := { program := "ytdpfoeknphiheaa", sum := "26470bbbfd6afd80cb85a163f66f55598f9d617d8a6e763cdeee0e53cc8269a8", func := "loop.example/g01161/laws.FnExactCommonTree", spec := "fnExactCommonTree", recurses := true, apart := false, narrowed := true }
def FnExactCommonTreeUptoSaid : Prop := fnExactCommonTreeUptoRow.holds Try.pinned (OpenSpec.upto fnExactCommonTreeSpec)

end Rows
end Go.Proofs.Ytdpfoeknphiheaa
