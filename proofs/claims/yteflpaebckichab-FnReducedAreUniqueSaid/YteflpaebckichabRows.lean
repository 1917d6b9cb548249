/-
  No cell of these rows narrows 'for every input' (looked for: loops, veiled, ifaces, maps, wideKeys, modest, calm, conditions, laid).
  DERIVED. THE GIVEN ROWS OF THIS SEAT. 4 by the template 'for every input the law returns true; each argument reads behind the call as it read before'; 0 by the template 'total and deterministic' (their statements: YteflpaebckichabTotals.lean).
  GIVEN WITH THE SEED: the statements are not yours to turn. If you find one false, say at which input.
  Laid BY PROGRAM, IN A SANDBOX (cutbox-rows.mjs): the forced cells as the released guide's own fill.sh prints them over the translation ce049bb2403e2334… (all of the seat's roots in one cut). By AI agents, Wed Nov 11 2026. No macro, syntax, notation, axiom, sorry.
-/
import Derived.Test.YteflpaebckichabChecked
import GoSem.Claim
import GoSem.ClaimJoined
import GoSem.ClaimMapViews
import Derived.JoinedTies
import Derived.KernelRfl
namespace Go.Proofs.Yteflpaebckichab
/- THE CELL 'sum', in the pinned program and in every row, IS THE sha256 OF THE DUMP (.gsa) THAT YteflpaebckichabProg.lean LOADS. Nothing in Lean hashes anything: it is a label: what it is worth is what the hold of that sum in a sandbox is worth. -/
noncomputable def Try.pinned : Pinned := { name := "yteflpaebckichab", sum := "ce049bb2403e233474c2ea1eb0231f96faa8db668b5c8da191020a7dfb355759", checked := Try.checked }
namespace Rows
def none {H : Type} : Left H := { results := [], args := [] }

/-- 'laws.FnTreesByAddresses': WHATEVER THE INPUT: true; the input reads as it did. -/
def fnTreesByAddressesSpec : ChangeSpec := { name := "fnTreesByAddresses", fn := fun _ => fun
  | [d1, d2] => { results := [.lit (.bool true)], args := [d1, d2] }
  | _ => none }
def fnTreesByAddressesRow : OpenClaim := { program := "yteflpaebckichab", sum := "ce049bb2403e233474c2ea1eb0231f96faa8db668b5c8da191020a7dfb355759", func := "loop.example/g01161/laws.FnTreesByAddresses", spec := "fnTreesByAddresses", inPlace := ["internal/bytealg.CountString", "internal/bytealg.IndexByteString", "internal/bytealg.IndexString"], recurses := true, named := ["internal/bytealg.MaxLen"], apart := false }
def FnTreesByAddressesSaid : Prop := fnTreesByAddressesRow.holds Try.pinned (OpenSpec.ofChange fnTreesByAddressesSpec)

/-- ITS FALSE NEIGHBOUR: 'it returns false'. Refute it at one input. -/
def fnTreesByAddressesWrong : ChangeSpec := { name := "fnTreesByAddresses", fn := fun _ => fun
  | [d1, d2] => { results := [.lit (.bool false)], args := [d1, d2] }
  | _ => none }
def FnTreesByAddressesWrongFalsely : Prop := fnTreesByAddressesRow.holds Try.pinned (OpenSpec.ofChange fnTreesByAddressesWrong)

/-- 'laws.FnTreesJoined': WHATEVER THE INPUT: true; the input reads as it did. -/
def fnTreesJoinedSpec : ChangeSpec := { name := "fnTreesJoined", fn := fun _ => fun
  | [d1, d2] => { results := [.lit (.bool true)], args := [d1, d2] }
  | _ => none }
def fnTreesJoinedRow : OpenClaim := { program := "yteflpaebckichab", sum := "ce049bb2403e233474c2ea1eb0231f96faa8db668b5c8da191020a7dfb355759", func := "loop.example/g01161/laws.FnTreesJoined", spec := "fnTreesJoined", inPlace := ["internal/bytealg.CountString", "internal/bytealg.IndexByteString", "internal/bytealg.IndexString"], unfollowed := true, recurses := true, named := ["internal/bytealg.MaxLen"], apart := false }
def FnTreesJoinedSaid : Prop := fnTreesJoinedRow.holds Try.pinned (OpenSpec.ofChange fnTreesJoinedSpec)

/-- ITS FALSE NEIGHBOUR: 'it returns false'. Refute it at one input. -/
def fnTreesJoinedWrong : ChangeSpec := { name := "fnTreesJoined", fn := fun _ => fun
  | [d1, d2] => { results := [.lit (.bool false)], args := [d1, d2] }
  | _ => none }
def FnTreesJoinedWrongFalsely : Prop := fnTreesJoinedRow.holds Try.pinned (OpenSpec.ofChange fnTreesJoinedWrong)

/-- 'laws.FnTreesCounted': WHATEVER THE INPUT: true; the input reads as it did. -/
def fnTreesCountedSpec : ChangeSpec := { name := "fnTreesCounted", fn := fun _ => fun
  | [d1, d2] => { results := [.lit (.bool true)], args := [d1, d2] }
  | _ => none }
def fnTreesCountedRow : OpenClaim := { program := "yteflpaebckichab", sum := "ce049bb2403e233474c2ea1eb0231f96faa8db668b5c8da191020a7dfb355759", func := "loop.example/g01161/laws.FnTreesCounted", spec := "fnTreesCounted", inPlace := ["internal/bytealg.CountString", "internal/bytealg.IndexByteString", "internal/bytealg.IndexString"], unfollowed := true, recurses := true, named := ["internal/bytealg.MaxLen"], apart := false }
def FnTreesCountedSaid : Prop := fnTreesCountedRow.holds Try.pinned (OpenSpec.ofChange fnTreesCountedSpec)

/-- ITS FALSE NEIGHBOUR: 'it returns false'. Refute it at one input. -/
def fnTreesCountedWrong : ChangeSpec := { name := "fnTreesCounted", fn := fun _ => fun
  | [d1, d2] => { results := [.lit (.bool false)], args := [d1, d2] }
  | _ => none }
def FnTreesCountedWrongFalsely : Prop := fnTreesCountedRow.holds Try.pinned (OpenSpec.ofChange fnTreesCountedWrong)

/-- 'laws.FnReducedAreUnique': WHATEVER THE INPUT: true; the input reads as it did. -/
def fnReducedAreUniqueSpec : ChangeSpec := { name := "fnReducedAreUnique", fn := fun _ => fun
  | [d1, d2] => { results := [.lit (.bool true)], args := [d1, d2] }
  | _ => none }
def fnReducedAreUniqueRow : OpenClaim := { program := "yteflpaebckichab", sum := "ce049bb2403e233474c2ea1eb0231f96faa8db668b5c8da191020a7dfb355759", func := "loop.example/g01161/laws.FnReducedAreUnique", spec := "fnReducedAreUnique", inPlace := ["internal/bytealg.CountString", "internal/bytealg.IndexByteString", "internal/bytealg.IndexString"], unfollowed := true, recurses := true, named := ["internal/bytealg.MaxLen"], apart := false }
def FnReducedAreUniqueSaid : Prop := fnReducedAreUniqueRow.holds Try.pinned (OpenSpec.ofChange fnReducedAreUniqueSpec)

/-- ITS FALSE NEIGHBOUR: 'it returns false'. Refute it at one input. -/
def fnReducedAreUniqueWrong : ChangeSpec := { name := "fnReducedAreUnique", fn := fun _ => fun
  | [d1, d2] => { results := [.lit (.bool false)], args := [d1, d2] }
  | _ => none }
def FnReducedAreUniqueWrongFalsely : Prop := fnReducedAreUniqueRow.holds Try.pinned (OpenSpec.ofChange fnReducedAreUniqueWrong)

/- THE SECOND FORM. 'bulk': how many values and letters a reading holds, each counted each time it is reached (what is shared counts as often as it is met; a slice's spare places count too). A statement '..UptoSaid' is the law's where the arguments, and the package variables that the reading takes, are together of bulk at most 1048576: NARROWER than '..Said'. Prove '..Said' where nothing that the law and all that it calls make is longer than what came in: it says more and counts as full. Else prove '..UptoSaid'. A law counts once. -/
mutual
def uptoBulk {H : Type} : DataW H → Nat
  | .lit (.string bytes) => bytes.length + 1
  | .lit _ => 1
  | .nil => 1
  | .ptr d => uptoBulk d + 1
  | .slice elems spare => uptoBulkAll elems + uptoBulkAll spare + 1
  | .agg parts => uptoBulkAll parts + 1
  | .iface _ d => uptoBulk d + 1
  | .map entries => uptoBulkEntries entries + 1
  | .held _ => 1
def uptoBulkAll {H : Type} : List (DataW H) → Nat
  | [] => 0
  | d :: r => uptoBulk d + uptoBulkAll r
def uptoBulkEntries {H : Type} : List (Lit × DataW H) → Nat
  | [] => 0
  | x :: r => uptoBulkEntry x + uptoBulkEntries r
def uptoBulkEntry {H : Type} : Lit × DataW H → Nat
  | (.string bytes, d) => bytes.length + uptoBulk d + 1
  | (_, d) => uptoBulk d + 1
 end
def uptoSmall : (H : Type) → List (DataW H) → Bool := fun _ ds => decide (uptoBulkAll ds ≤ 1048576)
def OpenSpec.upto (s : _root_.Go.ChangeSpec) : _root_.Go.OpenSpec := { _root_.Go.OpenSpec.ofChange s with cond := some uptoSmall }

/-- 'laws.FnTreesByAddresses', WHERE WHAT IT READS IS OF BULK AT MOST 1048576: true; the input reads as it did. -/
def fnTreesByAddressesUptoRow : OpenClaim := { program := "yteflpaebckichab", sum := "ce049bb2403e233474c2ea1eb0231f96faa8db668b5c8da191020a7dfb355759", func := "loop.example/g01161/laws.FnTreesByAddresses", spec := "fnTreesByAddresses", inPlace := ["internal/bytealg.CountString", "internal/bytealg.IndexByteString", "internal/bytealg.IndexString"], recurses := true, named := ["internal/bytealg.MaxLen"], apart := false, narrowed := true }
def FnTreesByAddressesUptoSaid : Prop := fnTreesByAddressesUptoRow.holds Try.pinned (OpenSpec.upto fnTreesByAddressesSpec)

/-- 'laws.FnTreesJoined', WHERE WHAT IT READS IS OF BULK AT MOST 1048576: true; the input reads as it did. -/
def fnTreesJoinedUptoRow : OpenClaim := { program := "yteflpaebckichab", sum := "ce049bb2403e233474c2ea1eb0231f96faa8db668b5c8da191020a7dfb355759", func := "loop.example/g01161/laws.FnTreesJoined", spec := "fnTreesJoined", inPlace := ["internal/bytealg.CountString", "internal/bytealg.IndexByteString", "internal/bytealg.IndexString"], unfollowed := true, recurses := true, named := ["internal/bytealg.MaxLen"], apart := false, narrowed := true }
def FnTreesJoinedUptoSaid : Prop := fnTreesJoinedUptoRow.holds Try.pinned (OpenSpec.upto fnTreesJoinedSpec)

/-- 'laws.FnTreesCounted', WHERE WHAT IT READS IS OF BULK AT MOST 1048576: true; the input reads as it did. -/
def fnTreesCountedUptoRow : OpenClaim := { program := "yteflpaebckichab", sum := "ce049bb2403e233474c2ea1eb0231f96faa8db668b5c8da191020a7dfb355759", func := "loop.example/g01161/laws.FnTreesCounted", spec := "fnTreesCounted", inPlace := ["internal/bytealg.CountString", "internal/bytealg.IndexByteString", "internal/bytealg.IndexString"], unfollowed := true, recurses := true, named := ["internal/bytealg.MaxLen"], apart := false, narrowed := true }
def FnTreesCountedUptoSaid : Prop := fnTreesCountedUptoRow.holds Try.pinned (OpenSpec.upto fnTreesCountedSpec)

/-- 'laws.FnReducedAreUnique', WHERE WHAT IT READS IS OF BULK AT MOST 1048576: true; the input reads as it did. -/
def fnReducedAreUniqueUptoRow : OpenClaim := { program := "yteflpaebckichab", sum := "ce049bb2403e233474c2ea1eb0231f96faa8db668b5c8da191020a7dfb355759", func := "loop.example/g01161/laws.FnReducedAreUnique", spec := "fnReducedAreUnique", inPlace := ["internal/bytealg.CountString", "internal/bytealg.IndexByteString", "internal/bytealg.IndexString"], unfollowed := true, recurses := true, named := ["internal/bytealg.MaxLen"], apart := false, narrowed := true }
def FnReducedAreUniqueUptoSaid : Prop := fnReducedAreUniqueUptoRow.holds Try.pinned (OpenSpec.upto fnReducedAreUniqueSpec)

end Rows
end Go.Proofs.Yteflpaebckichab
