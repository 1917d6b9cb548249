/-
  DERIVED. GIVEN WITH THE SEED: THE CARDS: each row of YtlcepokenaiggaaGreatDoorRows.lean that lists a variable, with what it lists TIED to the program's text (the seventh form; the later family's looks); each row that meets fmt, with fmt's text TOLD by the authors' own Lean function (tested against real Go, not proved from fmt's source: count such statements apart). THE CARD IS WHAT COUNTS. Prove the row's statement (the work); the ties are given (YtlcepokenaiggaaGreatDoorTie.lean); close each card by the builder's one call (the guide's Derived/Test/ToyasCard.lean, 'card_holds'). Laid BY PROGRAM, IN A SANDBOX (cutbox-door.mjs). By AI agents, Wed Nov 11 2026. No macro, syntax, notation, axiom, sorry.
-/
import Derived.Test.YtlcepokenaiggaaGreatDoorRows
import GoSem.ClaimSeven
namespace Go.Proofs.YtlcepokenaiggaaGreatDoor
namespace Rows

/-- THE TIED CARD OF 'laws.FnExactNextLengths'. -/
def fnExactNextLengthsCard : Claim7 := { stood := { row := fnExactNextLengthsRow, standIns := [], harness := (true, "140a84b34ca149e4597812ca397cde88660cb4ee7d24c99bd9307b3cc4d0cd64"), looks := false }, kinds := [], alts := [], laidByText := true, laidKinds := [.data], laidTests := true, laidLooks := .later }
def FnExactNextLengthsCardSaid : Prop := Claim7.holds Tryz.pinned (.plain (OpenSpec.ofChange fnExactNextLengthsSpec)) fnExactNextLengthsCard

/-- THE TIED CARD OF 'laws.FnExactIsDeadEnd'. -/
def fnExactIsDeadEndCard : Claim7 := { stood := { row := fnExactIsDeadEndRow, standIns := [], harness := (true, "140a84b34ca149e4597812ca397cde88660cb4ee7d24c99bd9307b3cc4d0cd64"), looks := false }, kinds := [], alts := [], laidByText := true, laidKinds := [.data], laidTests := true, laidLooks := .later }
def FnExactIsDeadEndCardSaid : Prop := Claim7.holds Tryz.pinned (.plain (OpenSpec.ofChange fnExactIsDeadEndSpec)) fnExactIsDeadEndCard

/-- THE TIED CARD OF 'laws.FnExactLengthOfWord'. -/
def fnExactLengthOfWordCard : Claim7 := { stood := { row := fnExactLengthOfWordRow, standIns := [], harness := (true, "140a84b34ca149e4597812ca397cde88660cb4ee7d24c99bd9307b3cc4d0cd64"), looks := false }, kinds := [], alts := [], laidByText := true, laidKinds := [.data], laidTests := true, laidLooks := .later }
def FnExactLengthOfWordCardSaid : Prop := Claim7.holds Tryz.pinned (.plain (OpenSpec.ofChange fnExactLengthOfWordSpec)) fnExactLengthOfWordCard

/-- THE TIED CARD OF 'laws.FnExactCountShortest'. -/
def fnExactCountShortestCard : Claim7 := { stood := { row := fnExactCountShortestRow, standIns := [], harness := (true, "140a84b34ca149e4597812ca397cde88660cb4ee7d24c99bd9307b3cc4d0cd64"), looks := false }, kinds := [], alts := [], laidByText := true, laidKinds := [.data], laidTests := true, laidLooks := .later }
def FnExactCountShortestCardSaid : Prop := Claim7.holds Tryz.pinned (.plain (OpenSpec.ofChange fnExactCountShortestSpec)) fnExactCountShortestCard

/-- THE SECOND FORM's CARD OF 'laws.FnExactNextLengths'. -/
def fnExactNextLengthsUptoCard : Claim7 := { stood := { row := fnExactNextLengthsUptoRow, standIns := [], harness := (true, "140a84b34ca149e4597812ca397cde88660cb4ee7d24c99bd9307b3cc4d0cd64"), looks := false }, kinds := [], alts := [], laidByText := true, laidKinds := [.data], laidTests := true, laidLooks := .later }
def FnExactNextLengthsUptoCardSaid : Prop := Claim7.holds Tryz.pinned (.plain (OpenSpec.upto fnExactNextLengthsSpec)) fnExactNextLengthsUptoCard

/-- THE SECOND FORM's CARD OF 'laws.FnExactIsDeadEnd'. -/
def fnExactIsDeadEndUptoCard : Claim7 := { stood := { row := fnExactIsDeadEndUptoRow, standIns := [], harness := (true, "140a84b34ca149e4597812ca397cde88660cb4ee7d24c99bd9307b3cc4d0cd64"), looks := false }, kinds := [], alts := [], laidByText := true, laidKinds := [.data], laidTests := true, laidLooks := .later }
def FnExactIsDeadEndUptoCardSaid : Prop := Claim7.holds Tryz.pinned (.plain (OpenSpec.upto fnExactIsDeadEndSpec)) fnExactIsDeadEndUptoCard

/-- THE SECOND FORM's CARD OF 'laws.FnExactLengthOfWord'. -/
def fnExactLengthOfWordUptoCard : Claim7 := { stood := { row := fnExactLengthOfWordUptoRow, standIns := [], harness := (true, "140a84b34ca149e4597812ca397cde88660cb4ee7d24c99bd9307b3cc4d0cd64"), looks := false }, kinds := [], alts := [], laidByText := true, laidKinds := [.data], laidTests := true, laidLooks := .later }
def FnExactLengthOfWordUptoCardSaid : Prop := Claim7.holds Tryz.pinned (.plain (OpenSpec.upto fnExactLengthOfWordSpec)) fnExactLengthOfWordUptoCard

/-- THE SECOND FORM's CARD OF 'laws.FnExactCountShortest'. -/
def fnExactCountShortestUptoCard : Claim7 := { stood := { row := fnExactCountShortestUptoRow, standIns := [], harness := (true, "140a84b34ca149e4597812ca397cde88660cb4ee7d24c99bd9307b3cc4d0cd64"), looks := false }, kinds := [], alts := [], laidByText := true, laidKinds := [.data], laidTests := true, laidLooks := .later }
def FnExactCountShortestUptoCardSaid : Prop := Claim7.holds Tryz.pinned (.plain (OpenSpec.upto fnExactCountShortestSpec)) fnExactCountShortestUptoCard
end Rows
end Go.Proofs.YtlcepokenaiggaaGreatDoor
