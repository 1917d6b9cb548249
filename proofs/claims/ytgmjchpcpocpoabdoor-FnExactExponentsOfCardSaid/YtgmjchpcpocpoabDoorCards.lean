/-
  DERIVED. GIVEN WITH THE SEED: THE CARDS: each row of YtgmjchpcpocpoabDoorRows.lean that lists a variable, with what it lists TIED to the program's text (the seventh form; the later family's looks); each row that meets fmt, with fmt's text TOLD by the authors' own Lean function (tested against real Go, not proved from fmt's source: count such statements apart). THE CARD IS WHAT COUNTS. Prove the row's statement (the work); the ties are given (YtgmjchpcpocpoabDoorTie.lean); close each card by the builder's one call (the guide's Derived/Test/ToyasCard.lean, 'card_holds'). Laid BY PROGRAM, IN A SANDBOX (cutbox-door.mjs). By AI agents, Wed Nov 11 2026. No macro, syntax, notation, axiom, sorry.
-/
import Derived.Test.YtgmjchpcpocpoabDoorRows
import GoSem.ClaimSeven
namespace Go.Proofs.YtgmjchpcpocpoabDoor
namespace Rows

/-- THE TIED CARD OF 'laws.FnExactParseWord'. -/
def fnExactParseWordCard : Claim7 := { stood := { row := fnExactParseWordRow, standIns := [], harness := (true, "ba513b3f186e9c91968ef89d980cfd2f1e7b068b161fe70e34dd1feb6054e0cb"), looks := true }, kinds := [], alts := [], laidByText := true, laidKinds := [.data, .data, .data, .data, .sentinel, .sentinel, .pinned], laidTests := true, laidLooks := .later }
def FnExactParseWordCardSaid : Prop := Claim7.holds Tryd.pinned (.plain (OpenSpec.ofChange fnExactParseWordSpec)) fnExactParseWordCard

/-- THE TIED CARD OF 'laws.FnExactExponentsOf'. -/
def fnExactExponentsOfCard : Claim7 := { stood := { row := fnExactExponentsOfRow, standIns := [], harness := (true, "ba513b3f186e9c91968ef89d980cfd2f1e7b068b161fe70e34dd1feb6054e0cb"), looks := true }, kinds := [], alts := [], laidByText := true, laidKinds := [.data, .pinned], laidTests := true, laidLooks := .later }
def FnExactExponentsOfCardSaid : Prop := Claim7.holds Tryd.pinned (.plain (OpenSpec.ofChange fnExactExponentsOfSpec)) fnExactExponentsOfCard

/-- THE TIED CARD OF 'laws.FnExactWordOfPair'. -/
def fnExactWordOfPairCard : Claim7 := { stood := { row := fnExactWordOfPairRow, standIns := [], harness := (true, "ba513b3f186e9c91968ef89d980cfd2f1e7b068b161fe70e34dd1feb6054e0cb"), looks := true }, kinds := [], alts := [], laidByText := true, laidKinds := [.data, .pinned], laidTests := true, laidLooks := .later }
def FnExactWordOfPairCardSaid : Prop := Claim7.holds Tryd.pinned (.plain (OpenSpec.ofChange fnExactWordOfPairSpec)) fnExactWordOfPairCard

/-- THE SECOND FORM's CARD OF 'laws.FnExactParseWord'. -/
def fnExactParseWordUptoCard : Claim7 := { stood := { row := fnExactParseWordUptoRow, standIns := [], harness := (true, "ba513b3f186e9c91968ef89d980cfd2f1e7b068b161fe70e34dd1feb6054e0cb"), looks := true }, kinds := [], alts := [], laidByText := true, laidKinds := [.data, .data, .data, .data, .sentinel, .sentinel, .pinned], laidTests := true, laidLooks := .later }
def FnExactParseWordUptoCardSaid : Prop := Claim7.holds Tryd.pinned (.plain (OpenSpec.upto fnExactParseWordSpec)) fnExactParseWordUptoCard

/-- THE SECOND FORM's CARD OF 'laws.FnExactExponentsOf'. -/
def fnExactExponentsOfUptoCard : Claim7 := { stood := { row := fnExactExponentsOfUptoRow, standIns := [], harness := (true, "ba513b3f186e9c91968ef89d980cfd2f1e7b068b161fe70e34dd1feb6054e0cb"), looks := true }, kinds := [], alts := [], laidByText := true, laidKinds := [.data, .pinned], laidTests := true, laidLooks := .later }
def FnExactExponentsOfUptoCardSaid : Prop := Claim7.holds Tryd.pinned (.plain (OpenSpec.upto fnExactExponentsOfSpec)) fnExactExponentsOfUptoCard

/-- THE SECOND FORM's CARD OF 'laws.FnExactWordOfPair'. -/
def fnExactWordOfPairUptoCard : Claim7 := { stood := { row := fnExactWordOfPairUptoRow, standIns := [], harness := (true, "ba513b3f186e9c91968ef89d980cfd2f1e7b068b161fe70e34dd1feb6054e0cb"), looks := true }, kinds := [], alts := [], laidByText := true, laidKinds := [.data, .pinned], laidTests := true, laidLooks := .later }
def FnExactWordOfPairUptoCardSaid : Prop := Claim7.holds Tryd.pinned (.plain (OpenSpec.upto fnExactWordOfPairSpec)) fnExactWordOfPairUptoCard
end Rows
end Go.Proofs.YtgmjchpcpocpoabDoor
