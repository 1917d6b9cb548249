/-
  DERIVED. GIVEN WITH THE SEED: THE CARDS: each row of YtdhjchibhlcchaaDoorRows.lean that lists a variable, with what it lists TIED to the program's text (the seventh form; the later family's looks); each row that meets fmt, with fmt's text TOLD by the authors' own Lean function (tested against real Go, not proved from fmt's source: count such statements apart). THE CARD IS WHAT COUNTS. Prove the row's statement (the work); the ties are given (YtdhjchibhlcchaaDoorTie.lean); close each card by the builder's one call (the guide's Derived/Test/ToyasCard.lean, 'card_holds'). Laid BY PROGRAM, IN A SANDBOX (cutbox-door.mjs). By AI agents, Wed Nov 11 2026. No macro, syntax, notation, axiom, sorry.
-/
import Derived.Test.YtdhjchibhlcchaaDoorRows
import GoSem.ClaimSeven
namespace Go.Proofs.YtdhjchibhlcchaaDoor
namespace Rows

/-- THE TIED CARD OF 'laws.FnExactFractionOf'. -/
def fnExactFractionOfCard : Claim7 := { stood := { row := fnExactFractionOfRow, standIns := [], harness := (true, "7cc7afbc0febcc6a91b5f0d2f2491bf514d13fbc04f2be13c30c4eee6d933267"), looks := false }, kinds := [], alts := [], laidByText := true, laidKinds := [.data, .pinned], laidTests := true, laidLooks := .later }
def FnExactFractionOfCardSaid : Prop := Claim7.holds Tryd.pinned (.plain (OpenSpec.ofChange fnExactFractionOfSpec)) fnExactFractionOfCard

/-- THE TIED CARD OF 'laws.FnExactImageOfAddress'. -/
def fnExactImageOfAddressCard : Claim7 := { stood := { row := fnExactImageOfAddressRow, standIns := [], harness := (true, "7cc7afbc0febcc6a91b5f0d2f2491bf514d13fbc04f2be13c30c4eee6d933267"), looks := false }, kinds := [], alts := [], laidByText := true, laidKinds := [.data, .pinned], laidTests := true, laidLooks := .later }
def FnExactImageOfAddressCardSaid : Prop := Claim7.holds Tryd.pinned (.plain (OpenSpec.ofChange fnExactImageOfAddressSpec)) fnExactImageOfAddressCard

/-- THE TIED CARD OF 'laws.FnExactGraphText'. -/
def fnExactGraphTextCard : Claim7 := { stood := { row := fnExactGraphTextRow, standIns := [], harness := (true, "7cc7afbc0febcc6a91b5f0d2f2491bf514d13fbc04f2be13c30c4eee6d933267"), looks := false }, kinds := [], alts := [], laidByText := true, laidKinds := [.data, .data, .data], laidTests := true, laidLooks := .later }
def FnExactGraphTextCardSaid : Prop := Claim7.holds Tryd.pinned (.plain (OpenSpec.ofChange fnExactGraphTextSpec)) fnExactGraphTextCard

/-- THE SECOND FORM's CARD OF 'laws.FnExactFractionOf'. -/
def fnExactFractionOfUptoCard : Claim7 := { stood := { row := fnExactFractionOfUptoRow, standIns := [], harness := (true, "7cc7afbc0febcc6a91b5f0d2f2491bf514d13fbc04f2be13c30c4eee6d933267"), looks := false }, kinds := [], alts := [], laidByText := true, laidKinds := [.data, .pinned], laidTests := true, laidLooks := .later }
def FnExactFractionOfUptoCardSaid : Prop := Claim7.holds Tryd.pinned (.plain (OpenSpec.upto fnExactFractionOfSpec)) fnExactFractionOfUptoCard

/-- THE SECOND FORM's CARD OF 'laws.FnExactImageOfAddress'. -/
def fnExactImageOfAddressUptoCard : Claim7 := { stood := { row := fnExactImageOfAddressUptoRow, standIns := [], harness := (true, "7cc7afbc0febcc6a91b5f0d2f2491bf514d13fbc04f2be13c30c4eee6d933267"), looks := false }, kinds := [], alts := [], laidByText := true, laidKinds := [.data, .pinned], laidTests := true, laidLooks := .later }
def FnExactImageOfAddressUptoCardSaid : Prop := Claim7.holds Tryd.pinned (.plain (OpenSpec.upto fnExactImageOfAddressSpec)) fnExactImageOfAddressUptoCard

/-- THE SECOND FORM's CARD OF 'laws.FnExactGraphText'. -/
def fnExactGraphTextUptoCard : Claim7 := { stood := { row := fnExactGraphTextUptoRow, standIns := [], harness := (true, "7cc7afbc0febcc6a91b5f0d2f2491bf514d13fbc04f2be13c30c4eee6d933267"), looks := false }, kinds := [], alts := [], laidByText := true, laidKinds := [.data, .data, .data], laidTests := true, laidLooks := .later }
def FnExactGraphTextUptoCardSaid : Prop := Claim7.holds Tryd.pinned (.plain (OpenSpec.upto fnExactGraphTextSpec)) fnExactGraphTextUptoCard
end Rows
end Go.Proofs.YtdhjchibhlcchaaDoor
