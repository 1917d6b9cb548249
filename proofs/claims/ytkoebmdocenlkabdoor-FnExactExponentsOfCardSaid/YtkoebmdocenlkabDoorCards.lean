/-
  DERIVED. GIVEN WITH THE SEED: THE CARDS: each row of YtkoebmdocenlkabDoorRows.lean that lists a variable, with what it lists TIED to the program's text (the seventh form; the later family's looks); each row that meets fmt, with fmt's text TOLD by the authors' own Lean function (tested against real Go, not proved from fmt's source: count such statements apart). THE CARD IS WHAT COUNTS. Prove the row's statement (the work); the ties are given (YtkoebmdocenlkabDoorTie.lean); close each card by the builder's one call (the guide's Derived/Test/ToyasCard.lean, 'card_holds'). Laid BY PROGRAM, IN A SANDBOX (cutbox-door.mjs). By AI agents, Wed Nov 11 2026. No macro, syntax, notation, axiom, sorry.
-/
import Derived.Test.YtkoebmdocenlkabDoorRows
import GoSem.ClaimSeven
namespace Go.Proofs.YtkoebmdocenlkabDoor
namespace Rows

/-- THE TIED CARD OF 'laws.FnExactWordOfPair'. -/
def fnExactWordOfPairCard : Claim7 := { stood := { row := fnExactWordOfPairRow, standIns := [], harness := (true, "8eae2338a809b26d2aba53d98c47f7e88dd872885f675b4ffd0432741c2f4451"), looks := false }, kinds := [], alts := [], laidByText := true, laidKinds := [.data, .pinned], laidTests := true, laidLooks := .later }
def FnExactWordOfPairCardSaid : Prop := Claim7.holds Tryd.pinned (.plain (OpenSpec.ofChange fnExactWordOfPairSpec)) fnExactWordOfPairCard

/-- THE TIED CARD OF 'laws.FnExactExponentsOf'. -/
def fnExactExponentsOfCard : Claim7 := { stood := { row := fnExactExponentsOfRow, standIns := [], harness := (true, "8eae2338a809b26d2aba53d98c47f7e88dd872885f675b4ffd0432741c2f4451"), looks := false }, kinds := [], alts := [], laidByText := true, laidKinds := [.data, .pinned], laidTests := true, laidLooks := .later }
def FnExactExponentsOfCardSaid : Prop := Claim7.holds Tryd.pinned (.plain (OpenSpec.ofChange fnExactExponentsOfSpec)) fnExactExponentsOfCard

/-- THE TIED CARD OF 'laws.FnExactCarrierOf'. -/
def fnExactCarrierOfCard : Claim7 := { stood := { row := fnExactCarrierOfRow, standIns := [], harness := (true, "8eae2338a809b26d2aba53d98c47f7e88dd872885f675b4ffd0432741c2f4451"), looks := false }, kinds := [], alts := [], laidByText := true, laidKinds := [.data, .data], laidTests := true, laidLooks := .later }
def FnExactCarrierOfCardSaid : Prop := Claim7.holds Tryd.pinned (.plain (OpenSpec.ofChange fnExactCarrierOfSpec)) fnExactCarrierOfCard

/-- THE SECOND FORM's CARD OF 'laws.FnExactWordOfPair'. -/
def fnExactWordOfPairUptoCard : Claim7 := { stood := { row := fnExactWordOfPairUptoRow, standIns := [], harness := (true, "8eae2338a809b26d2aba53d98c47f7e88dd872885f675b4ffd0432741c2f4451"), looks := false }, kinds := [], alts := [], laidByText := true, laidKinds := [.data, .pinned], laidTests := true, laidLooks := .later }
def FnExactWordOfPairUptoCardSaid : Prop := Claim7.holds Tryd.pinned (.plain (OpenSpec.upto fnExactWordOfPairSpec)) fnExactWordOfPairUptoCard

/-- THE SECOND FORM's CARD OF 'laws.FnExactExponentsOf'. -/
def fnExactExponentsOfUptoCard : Claim7 := { stood := { row := fnExactExponentsOfUptoRow, standIns := [], harness := (true, "8eae2338a809b26d2aba53d98c47f7e88dd872885f675b4ffd0432741c2f4451"), looks := false }, kinds := [], alts := [], laidByText := true, laidKinds := [.data, .pinned], laidTests := true, laidLooks := .later }
def FnExactExponentsOfUptoCardSaid : Prop := Claim7.holds Tryd.pinned (.plain (OpenSpec.upto fnExactExponentsOfSpec)) fnExactExponentsOfUptoCard

/-- THE SECOND FORM's CARD OF 'laws.FnExactCarrierOf'. -/
def fnExactCarrierOfUptoCard : Claim7 := { stood := { row := fnExactCarrierOfUptoRow, standIns := [], harness := (true, "8eae2338a809b26d2aba53d98c47f7e88dd872885f675b4ffd0432741c2f4451"), looks := false }, kinds := [], alts := [], laidByText := true, laidKinds := [.data, .data], laidTests := true, laidLooks := .later }
def FnExactCarrierOfUptoCardSaid : Prop := Claim7.holds Tryd.pinned (.plain (OpenSpec.upto fnExactCarrierOfSpec)) fnExactCarrierOfUptoCard
end Rows
end Go.Proofs.YtkoebmdocenlkabDoor
