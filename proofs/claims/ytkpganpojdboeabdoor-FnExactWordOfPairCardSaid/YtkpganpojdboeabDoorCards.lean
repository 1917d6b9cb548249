/-
  DERIVED. GIVEN WITH THE SEED: THE CARDS: each row of YtkpganpojdboeabDoorRows.lean that lists a variable, with what it lists TIED to the program's text (the seventh form; the later family's looks); each row that meets fmt, with fmt's text TOLD by the authors' own Lean function (tested against real Go, not proved from fmt's source: count such statements apart). THE CARD IS WHAT COUNTS. Prove the row's statement (the work); the ties are given (YtkpganpojdboeabDoorTie.lean); close each card by the builder's one call (the guide's Derived/Test/ToyasCard.lean, 'card_holds'). Laid BY PROGRAM, IN A SANDBOX (cutbox-door.mjs). By AI agents, Wed Nov 11 2026. No macro, syntax, notation, axiom, sorry.
-/
import Derived.Test.YtkpganpojdboeabDoorRows
import GoSem.ClaimSeven
namespace Go.Proofs.YtkpganpojdboeabDoor
namespace Rows

/-- THE TIED CARD OF 'laws.FnExactWordOfPair'. -/
def fnExactWordOfPairCard : Claim7 := { stood := { row := fnExactWordOfPairRow, standIns := [], harness := (true, "c5d1a25ee9f4b0dde44892afd468ab2cf017f10ab478e98ea8bec94849355d07"), looks := true }, kinds := [], alts := [], laidByText := true, laidKinds := [.data, .pinned], laidTests := true, laidLooks := .later }
def FnExactWordOfPairCardSaid : Prop := Claim7.holds Tryd.pinned (.plain (OpenSpec.ofChange fnExactWordOfPairSpec)) fnExactWordOfPairCard

/-- THE TIED CARD OF 'laws.FnExactParseWord'. -/
def fnExactParseWordCard : Claim7 := { stood := { row := fnExactParseWordRow, standIns := [], harness := (true, "c5d1a25ee9f4b0dde44892afd468ab2cf017f10ab478e98ea8bec94849355d07"), looks := true }, kinds := [], alts := [], laidByText := true, laidKinds := [.data, .data, .data, .data, .sentinel, .sentinel, .pinned], laidTests := true, laidLooks := .later }
def FnExactParseWordCardSaid : Prop := Claim7.holds Tryd.pinned (.plain (OpenSpec.ofChange fnExactParseWordSpec)) fnExactParseWordCard

/-- THE TIED CARD OF 'laws.FnExactBracketText'. -/
def fnExactBracketTextCard : Claim7 := { stood := { row := fnExactBracketTextRow, standIns := [], harness := (true, "c5d1a25ee9f4b0dde44892afd468ab2cf017f10ab478e98ea8bec94849355d07"), looks := true }, kinds := [], alts := [], laidByText := true, laidKinds := [.data, .pinned], laidTests := true, laidLooks := .later }
def FnExactBracketTextCardSaid : Prop := Claim7.holds Tryd.pinned (.plain (OpenSpec.ofChange fnExactBracketTextSpec)) fnExactBracketTextCard

/-- THE TIED CARD OF 'laws.FnExactCarrierOf'. -/
def fnExactCarrierOfCard : Claim7 := { stood := { row := fnExactCarrierOfRow, standIns := [], harness := (true, "c5d1a25ee9f4b0dde44892afd468ab2cf017f10ab478e98ea8bec94849355d07"), looks := true }, kinds := [], alts := [], laidByText := true, laidKinds := [.data, .data], laidTests := true, laidLooks := .later }
def FnExactCarrierOfCardSaid : Prop := Claim7.holds Tryd.pinned (.plain (OpenSpec.ofChange fnExactCarrierOfSpec)) fnExactCarrierOfCard

/-- THE SECOND FORM's CARD OF 'laws.FnExactWordOfPair'. -/
def fnExactWordOfPairUptoCard : Claim7 := { stood := { row := fnExactWordOfPairUptoRow, standIns := [], harness := (true, "c5d1a25ee9f4b0dde44892afd468ab2cf017f10ab478e98ea8bec94849355d07"), looks := true }, kinds := [], alts := [], laidByText := true, laidKinds := [.data, .pinned], laidTests := true, laidLooks := .later }
def FnExactWordOfPairUptoCardSaid : Prop := Claim7.holds Tryd.pinned (.plain (OpenSpec.upto fnExactWordOfPairSpec)) fnExactWordOfPairUptoCard

/-- THE SECOND FORM's CARD OF 'laws.FnExactParseWord'. -/
def fnExactParseWordUptoCard : Claim7 := { stood := { row := fnExactParseWordUptoRow, standIns := [], harness := (true, "c5d1a25ee9f4b0dde44892afd468ab2cf017f10ab478e98ea8bec94849355d07"), looks := true }, kinds := [], alts := [], laidByText := true, laidKinds := [.data, .data, .data, .data, .sentinel, .sentinel, .pinned], laidTests := true, laidLooks := .later }
def FnExactParseWordUptoCardSaid : Prop := Claim7.holds Tryd.pinned (.plain (OpenSpec.upto fnExactParseWordSpec)) fnExactParseWordUptoCard

/-- THE SECOND FORM's CARD OF 'laws.FnExactBracketText'. -/
def fnExactBracketTextUptoCard : Claim7 := { stood := { row := fnExactBracketTextUptoRow, standIns := [], harness := (true, "c5d1a25ee9f4b0dde44892afd468ab2cf017f10ab478e98ea8bec94849355d07"), looks := true }, kinds := [], alts := [], laidByText := true, laidKinds := [.data, .pinned], laidTests := true, laidLooks := .later }
def FnExactBracketTextUptoCardSaid : Prop := Claim7.holds Tryd.pinned (.plain (OpenSpec.upto fnExactBracketTextSpec)) fnExactBracketTextUptoCard

/-- THE SECOND FORM's CARD OF 'laws.FnExactCarrierOf'. -/
def fnExactCarrierOfUptoCard : Claim7 := { stood := { row := fnExactCarrierOfUptoRow, standIns := [], harness := (true, "c5d1a25ee9f4b0dde44892afd468ab2cf017f10ab478e98ea8bec94849355d07"), looks := true }, kinds := [], alts := [], laidByText := true, laidKinds := [.data, .data], laidTests := true, laidLooks := .later }
def FnExactCarrierOfUptoCardSaid : Prop := Claim7.holds Tryd.pinned (.plain (OpenSpec.upto fnExactCarrierOfSpec)) fnExactCarrierOfUptoCard
end Rows
end Go.Proofs.YtkpganpojdboeabDoor
