/-
  DERIVED. GIVEN WITH THE SEED: THE CARDS: each row of YtplmbdljhgicfaaDoorRows.lean that lists a variable, with what it lists TIED to the program's text (the seventh form; the later family's looks); each row that meets fmt, with fmt's text TOLD by the authors' own Lean function (tested against real Go, not proved from fmt's source: count such statements apart). THE CARD IS WHAT COUNTS. Prove the row's statement (the work); the ties are given (YtplmbdljhgicfaaDoorTie.lean); close each card by the builder's one call (the guide's Derived/Test/ToyasCard.lean, 'card_holds'). Laid BY PROGRAM, IN A SANDBOX (cutbox-door.mjs). By AI agents, Wed Nov 11 2026. No macro, syntax, notation, axiom, sorry.
-/
import Derived.Test.YtplmbdljhgicfaaDoorRows
import GoSem.ClaimSeven
namespace Go.Proofs.YtplmbdljhgicfaaDoor
namespace Rows

/-- THE TIED CARD OF 'laws.FnExactWordOfForest'. -/
def fnExactWordOfForestCard : Claim7 := { stood := { row := fnExactWordOfForestRow, standIns := [], harness := (true, "87163622277c8b43630ccf6fcd3343e9f8dc51ac0576cd2cf5c2ef4903b07eeb"), looks := false }, kinds := [], alts := [], laidByText := true, laidKinds := [.data, .pinned], laidTests := true, laidLooks := .later }
def FnExactWordOfForestCardSaid : Prop := Claim7.holds Tryd.pinned (.plain (OpenSpec.ofChange fnExactWordOfForestSpec)) fnExactWordOfForestCard

/-- THE TIED CARD OF 'laws.FnExactParseForest'. -/
def fnExactParseForestCard : Claim7 := { stood := { row := fnExactParseForestRow, standIns := [], harness := (true, "87163622277c8b43630ccf6fcd3343e9f8dc51ac0576cd2cf5c2ef4903b07eeb"), looks := false }, kinds := [], alts := [], laidByText := true, laidKinds := [.data, .pinned], laidTests := true, laidLooks := .later }
def FnExactParseForestCardSaid : Prop := Claim7.holds Tryd.pinned (.plain (OpenSpec.ofChange fnExactParseForestSpec)) fnExactParseForestCard

/-- THE SECOND FORM's CARD OF 'laws.FnExactWordOfForest'. -/
def fnExactWordOfForestUptoCard : Claim7 := { stood := { row := fnExactWordOfForestUptoRow, standIns := [], harness := (true, "87163622277c8b43630ccf6fcd3343e9f8dc51ac0576cd2cf5c2ef4903b07eeb"), looks := false }, kinds := [], alts := [], laidByText := true, laidKinds := [.data, .pinned], laidTests := true, laidLooks := .later }
def FnExactWordOfForestUptoCardSaid : Prop := Claim7.holds Tryd.pinned (.plain (OpenSpec.upto fnExactWordOfForestSpec)) fnExactWordOfForestUptoCard

/-- THE SECOND FORM's CARD OF 'laws.FnExactParseForest'. -/
def fnExactParseForestUptoCard : Claim7 := { stood := { row := fnExactParseForestUptoRow, standIns := [], harness := (true, "87163622277c8b43630ccf6fcd3343e9f8dc51ac0576cd2cf5c2ef4903b07eeb"), looks := false }, kinds := [], alts := [], laidByText := true, laidKinds := [.data, .pinned], laidTests := true, laidLooks := .later }
def FnExactParseForestUptoCardSaid : Prop := Claim7.holds Tryd.pinned (.plain (OpenSpec.upto fnExactParseForestSpec)) fnExactParseForestUptoCard
end Rows
end Go.Proofs.YtplmbdljhgicfaaDoor
