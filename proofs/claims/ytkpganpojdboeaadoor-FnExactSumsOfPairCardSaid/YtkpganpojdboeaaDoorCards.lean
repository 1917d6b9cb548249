/-
  DERIVED. GIVEN WITH THE SEED: THE CARDS: each row of YtkpganpojdboeaaDoorRows.lean that lists a variable, with what it lists TIED to the program's text (the seventh form; the later family's looks); each row that meets fmt, with fmt's text TOLD by the authors' own Lean function (tested against real Go, not proved from fmt's source: count such statements apart). THE CARD IS WHAT COUNTS. Prove the row's statement (the work); the ties are given (YtkpganpojdboeaaDoorTie.lean); close each card by the builder's one call (the guide's Derived/Test/ToyasCard.lean, 'card_holds'). Laid BY PROGRAM, IN A SANDBOX (cutbox-door.mjs). By AI agents, Wed Nov 11 2026. No macro, syntax, notation, axiom, sorry.
-/
import Derived.Test.YtkpganpojdboeaaDoorRows
import GoSem.ClaimSeven
namespace Go.Proofs.YtkpganpojdboeaaDoor
namespace Rows

/-- THE TIED CARD OF 'laws.FnExactSumsOfPair'. -/
def fnExactSumsOfPairCard : Claim7 := { stood := { row := fnExactSumsOfPairRow, standIns := [], harness := (true, "d66bc1d56928a1a115aee664f7ccd84ded1b3cbe84be1a629310d2019d699c00"), looks := false }, kinds := [], alts := [], laidByText := true, laidKinds := [.data, .pinned], laidTests := true, laidLooks := .later }
def FnExactSumsOfPairCardSaid : Prop := Claim7.holds Tryd.pinned (.plain (OpenSpec.ofChange fnExactSumsOfPairSpec)) fnExactSumsOfPairCard

/-- THE SECOND FORM's CARD OF 'laws.FnExactSumsOfPair'. -/
def fnExactSumsOfPairUptoCard : Claim7 := { stood := { row := fnExactSumsOfPairUptoRow, standIns := [], harness := (true, "d66bc1d56928a1a115aee664f7ccd84ded1b3cbe84be1a629310d2019d699c00"), looks := false }, kinds := [], alts := [], laidByText := true, laidKinds := [.data, .pinned], laidTests := true, laidLooks := .later }
def FnExactSumsOfPairUptoCardSaid : Prop := Claim7.holds Tryd.pinned (.plain (OpenSpec.upto fnExactSumsOfPairSpec)) fnExactSumsOfPairUptoCard
end Rows
end Go.Proofs.YtkpganpojdboeaaDoor
