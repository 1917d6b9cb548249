/-
  DERIVED. GIVEN WITH THE SEED: THE CARDS: each row of YtlcepokenaiggaaDoorRows.lean that lists a variable, with what it lists TIED to the program's text (the seventh form; the later family's looks); each row that meets fmt, with fmt's text TOLD by the authors' own Lean function (tested against real Go, not proved from fmt's source: count such statements apart). THE CARD IS WHAT COUNTS. Prove the row's statement (the work); the ties are given (YtlcepokenaiggaaDoorTie.lean); close each card by the builder's one call (the guide's Derived/Test/ToyasCard.lean, 'card_holds'). Laid BY PROGRAM, IN A SANDBOX (cutbox-door.mjs). By AI agents, Wed Nov 11 2026. No macro, syntax, notation, axiom, sorry.
-/
import Derived.Test.YtlcepokenaiggaaDoorRows
import GoSem.ClaimSeven
namespace Go.Proofs.YtlcepokenaiggaaDoor
namespace Rows

/-- THE TIED CARD OF 'laws.FnExactKindLength'. -/
def fnExactKindLengthCard : Claim7 := { stood := { row := fnExactKindLengthRow, standIns := [], harness := (true, "f5192ac7719b6b2f6963fcbfb4be1a5c101ee042bc484a42eeb62841fd1f8f07"), looks := false }, kinds := [], alts := [], laidByText := true, laidKinds := [.data], laidTests := true, laidLooks := .later }
def FnExactKindLengthCardSaid : Prop := Claim7.holds Tryd.pinned (.plain (OpenSpec.ofChange fnExactKindLengthSpec)) fnExactKindLengthCard

/-- THE TIED CARD OF 'laws.FnExactLengthOf'. -/
def fnExactLengthOfCard : Claim7 := { stood := { row := fnExactLengthOfRow, standIns := [], harness := (true, "f5192ac7719b6b2f6963fcbfb4be1a5c101ee042bc484a42eeb62841fd1f8f07"), looks := false }, kinds := [], alts := [], laidByText := true, laidKinds := [.data], laidTests := true, laidLooks := .later }
def FnExactLengthOfCardSaid : Prop := Claim7.holds Tryd.pinned (.plain (OpenSpec.ofChange fnExactLengthOfSpec)) fnExactLengthOfCard

/-- THE TIED CARD OF 'laws.FnExactDistanceOf'. -/
def fnExactDistanceOfCard : Claim7 := { stood := { row := fnExactDistanceOfRow, standIns := [], harness := (true, "f5192ac7719b6b2f6963fcbfb4be1a5c101ee042bc484a42eeb62841fd1f8f07"), looks := false }, kinds := [], alts := [], laidByText := true, laidKinds := [.data], laidTests := true, laidLooks := .later }
def FnExactDistanceOfCardSaid : Prop := Claim7.holds Tryd.pinned (.plain (OpenSpec.ofChange fnExactDistanceOfSpec)) fnExactDistanceOfCard

/-- THE SECOND FORM's CARD OF 'laws.FnExactKindLength'. -/
def fnExactKindLengthUptoCard : Claim7 := { stood := { row := fnExactKindLengthUptoRow, standIns := [], harness := (true, "f5192ac7719b6b2f6963fcbfb4be1a5c101ee042bc484a42eeb62841fd1f8f07"), looks := false }, kinds := [], alts := [], laidByText := true, laidKinds := [.data], laidTests := true, laidLooks := .later }
def FnExactKindLengthUptoCardSaid : Prop := Claim7.holds Tryd.pinned (.plain (OpenSpec.upto fnExactKindLengthSpec)) fnExactKindLengthUptoCard

/-- THE SECOND FORM's CARD OF 'laws.FnExactLengthOf'. -/
def fnExactLengthOfUptoCard : Claim7 := { stood := { row := fnExactLengthOfUptoRow, standIns := [], harness := (true, "f5192ac7719b6b2f6963fcbfb4be1a5c101ee042bc484a42eeb62841fd1f8f07"), looks := false }, kinds := [], alts := [], laidByText := true, laidKinds := [.data], laidTests := true, laidLooks := .later }
def FnExactLengthOfUptoCardSaid : Prop := Claim7.holds Tryd.pinned (.plain (OpenSpec.upto fnExactLengthOfSpec)) fnExactLengthOfUptoCard

/-- THE SECOND FORM's CARD OF 'laws.FnExactDistanceOf'. -/
def fnExactDistanceOfUptoCard : Claim7 := { stood := { row := fnExactDistanceOfUptoRow, standIns := [], harness := (true, "f5192ac7719b6b2f6963fcbfb4be1a5c101ee042bc484a42eeb62841fd1f8f07"), looks := false }, kinds := [], alts := [], laidByText := true, laidKinds := [.data], laidTests := true, laidLooks := .later }
def FnExactDistanceOfUptoCardSaid : Prop := Claim7.holds Tryd.pinned (.plain (OpenSpec.upto fnExactDistanceOfSpec)) fnExactDistanceOfUptoCard
end Rows
end Go.Proofs.YtlcepokenaiggaaDoor
