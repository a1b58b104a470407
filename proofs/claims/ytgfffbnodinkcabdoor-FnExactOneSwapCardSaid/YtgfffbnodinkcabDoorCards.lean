/-
  DERIVED. GIVEN WITH THE SEED: THE CARDS: each row of YtgfffbnodinkcabDoorRows.lean that lists a variable, with what it lists TIED to the program's text (the seventh form; the later family's looks); each row that meets fmt, with fmt's text TOLD by the authors' own Lean function (tested against real Go, not proved from fmt's source: count such statements apart). THE CARD IS WHAT COUNTS. Prove the row's statement (the work); the ties are given (YtgfffbnodinkcabDoorTie.lean); close each card by the builder's one call (the guide's Derived/Test/ToyasCard.lean, 'card_holds'). Laid BY PROGRAM, IN A SANDBOX (cutbox-door.mjs). By AI agents, Wed Nov 11 2026. No macro, syntax, notation, axiom, sorry.
-/
import Derived.Test.YtgfffbnodinkcabDoorRows
import GoSem.ClaimSeven
namespace Go.Proofs.YtgfffbnodinkcabDoor
namespace Rows

/-- THE TIED CARD OF 'laws.FnExactMissingBooks'. -/
def fnExactMissingBooksCard : Claim7 := { stood := { row := fnExactMissingBooksRow, standIns := [], harness := (true, "3f650c153b231735c5312218ebd67aca0331b5a1c43f37d88975837f3b6a7939"), looks := true }, kinds := [], alts := [], laidByText := true, laidKinds := [.sentinel, .sentinel, .sentinel], laidTests := true, laidLooks := .later }
def FnExactMissingBooksCardSaid : Prop := Claim7.holds Tryd.pinned (.plain (OpenSpec.ofChange fnExactMissingBooksSpec)) fnExactMissingBooksCard

/-- THE TIED CARD OF 'laws.FnExactForeignBooks'. -/
def fnExactForeignBooksCard : Claim7 := { stood := { row := fnExactForeignBooksRow, standIns := [], harness := (true, "3f650c153b231735c5312218ebd67aca0331b5a1c43f37d88975837f3b6a7939"), looks := true }, kinds := [], alts := [], laidByText := true, laidKinds := [.sentinel, .sentinel, .sentinel], laidTests := true, laidLooks := .later }
def FnExactForeignBooksCardSaid : Prop := Claim7.holds Tryd.pinned (.plain (OpenSpec.ofChange fnExactForeignBooksSpec)) fnExactForeignBooksCard

/-- THE TIED CARD OF 'laws.FnExactSameStock'. -/
def fnExactSameStockCard : Claim7 := { stood := { row := fnExactSameStockRow, standIns := [], harness := (true, "3f650c153b231735c5312218ebd67aca0331b5a1c43f37d88975837f3b6a7939"), looks := true }, kinds := [], alts := [], laidByText := true, laidKinds := [.sentinel, .sentinel, .sentinel], laidTests := true, laidLooks := .later }
def FnExactSameStockCardSaid : Prop := Claim7.holds Tryd.pinned (.plain (OpenSpec.ofChange fnExactSameStockSpec)) fnExactSameStockCard

/-- THE TIED CARD OF 'laws.FnExactFewestSlips'. -/
def fnExactFewestSlipsCard : Claim7 := { stood := { row := fnExactFewestSlipsRow, standIns := [], harness := (true, "3f650c153b231735c5312218ebd67aca0331b5a1c43f37d88975837f3b6a7939"), looks := true }, kinds := [], alts := [], laidByText := true, laidKinds := [.sentinel, .sentinel, .sentinel], laidTests := true, laidLooks := .later }
def FnExactFewestSlipsCardSaid : Prop := Claim7.holds Tryd.pinned (.plain (OpenSpec.ofChange fnExactFewestSlipsSpec)) fnExactFewestSlipsCard

/-- THE TIED CARD OF 'laws.FnExactOneSwap'. -/
def fnExactOneSwapCard : Claim7 := { stood := { row := fnExactOneSwapRow, standIns := [], harness := (true, "3f650c153b231735c5312218ebd67aca0331b5a1c43f37d88975837f3b6a7939"), looks := true }, kinds := [], alts := [], laidByText := true, laidKinds := [.sentinel, .sentinel, .sentinel], laidTests := true, laidLooks := .later }
def FnExactOneSwapCardSaid : Prop := Claim7.holds Tryd.pinned (.plain (OpenSpec.ofChange fnExactOneSwapSpec)) fnExactOneSwapCard

/-- THE TIED CARD OF 'laws.FnExactOneSlip'. -/
def fnExactOneSlipCard : Claim7 := { stood := { row := fnExactOneSlipRow, standIns := [], harness := (true, "3f650c153b231735c5312218ebd67aca0331b5a1c43f37d88975837f3b6a7939"), looks := true }, kinds := [], alts := [], laidByText := true, laidKinds := [.sentinel, .sentinel, .sentinel], laidTests := true, laidLooks := .later }
def FnExactOneSlipCardSaid : Prop := Claim7.holds Tryd.pinned (.plain (OpenSpec.ofChange fnExactOneSlipSpec)) fnExactOneSlipCard

/-- THE TIED CARD OF 'laws.FnExactRightPlaces'. -/
def fnExactRightPlacesCard : Claim7 := { stood := { row := fnExactRightPlacesRow, standIns := [], harness := (true, "3f650c153b231735c5312218ebd67aca0331b5a1c43f37d88975837f3b6a7939"), looks := true }, kinds := [], alts := [], laidByText := true, laidKinds := [.sentinel, .sentinel, .sentinel], laidTests := true, laidLooks := .later }
def FnExactRightPlacesCardSaid : Prop := Claim7.holds Tryd.pinned (.plain (OpenSpec.ofChange fnExactRightPlacesSpec)) fnExactRightPlacesCard

/-- THE SECOND FORM's CARD OF 'laws.FnExactMissingBooks'. -/
def fnExactMissingBooksUptoCard : Claim7 := { stood := { row := fnExactMissingBooksUptoRow, standIns := [], harness := (true, "3f650c153b231735c5312218ebd67aca0331b5a1c43f37d88975837f3b6a7939"), looks := true }, kinds := [], alts := [], laidByText := true, laidKinds := [.sentinel, .sentinel, .sentinel], laidTests := true, laidLooks := .later }
def FnExactMissingBooksUptoCardSaid : Prop := Claim7.holds Tryd.pinned (.plain (OpenSpec.upto fnExactMissingBooksSpec)) fnExactMissingBooksUptoCard

/-- THE SECOND FORM's CARD OF 'laws.FnExactForeignBooks'. -/
def fnExactForeignBooksUptoCard : Claim7 := { stood := { row := fnExactForeignBooksUptoRow, standIns := [], harness := (true, "3f650c153b231735c5312218ebd67aca0331b5a1c43f37d88975837f3b6a7939"), looks := true }, kinds := [], alts := [], laidByText := true, laidKinds := [.sentinel, .sentinel, .sentinel], laidTests := true, laidLooks := .later }
def FnExactForeignBooksUptoCardSaid : Prop := Claim7.holds Tryd.pinned (.plain (OpenSpec.upto fnExactForeignBooksSpec)) fnExactForeignBooksUptoCard

/-- THE SECOND FORM's CARD OF 'laws.FnExactSameStock'. -/
def fnExactSameStockUptoCard : Claim7 := { stood := { row := fnExactSameStockUptoRow, standIns := [], harness := (true, "3f650c153b231735c5312218ebd67aca0331b5a1c43f37d88975837f3b6a7939"), looks := true }, kinds := [], alts := [], laidByText := true, laidKinds := [.sentinel, .sentinel, .sentinel], laidTests := true, laidLooks := .later }
def FnExactSameStockUptoCardSaid : Prop := Claim7.holds Tryd.pinned (.plain (OpenSpec.upto fnExactSameStockSpec)) fnExactSameStockUptoCard

/-- THE SECOND FORM's CARD OF 'laws.FnExactFewestSlips'. -/
def fnExactFewestSlipsUptoCard : Claim7 := { stood := { row := fnExactFewestSlipsUptoRow, standIns := [], harness := (true, "3f650c153b231735c5312218ebd67aca0331b5a1c43f37d88975837f3b6a7939"), looks := true }, kinds := [], alts := [], laidByText := true, laidKinds := [.sentinel, .sentinel, .sentinel], laidTests := true, laidLooks := .later }
def FnExactFewestSlipsUptoCardSaid : Prop := Claim7.holds Tryd.pinned (.plain (OpenSpec.upto fnExactFewestSlipsSpec)) fnExactFewestSlipsUptoCard

/-- THE SECOND FORM's CARD OF 'laws.FnExactOneSwap'. -/
def fnExactOneSwapUptoCard : Claim7 := { stood := { row := fnExactOneSwapUptoRow, standIns := [], harness := (true, "3f650c153b231735c5312218ebd67aca0331b5a1c43f37d88975837f3b6a7939"), looks := true }, kinds := [], alts := [], laidByText := true, laidKinds := [.sentinel, .sentinel, .sentinel], laidTests := true, laidLooks := .later }
def FnExactOneSwapUptoCardSaid : Prop := Claim7.holds Tryd.pinned (.plain (OpenSpec.upto fnExactOneSwapSpec)) fnExactOneSwapUptoCard

/-- THE SECOND FORM's CARD OF 'laws.FnExactOneSlip'. -/
def fnExactOneSlipUptoCard : Claim7 := { stood := { row := fnExactOneSlipUptoRow, standIns := [], harness := (true, "3f650c153b231735c5312218ebd67aca0331b5a1c43f37d88975837f3b6a7939"), looks := true }, kinds := [], alts := [], laidByText := true, laidKinds := [.sentinel, .sentinel, .sentinel], laidTests := true, laidLooks := .later }
def FnExactOneSlipUptoCardSaid : Prop := Claim7.holds Tryd.pinned (.plain (OpenSpec.upto fnExactOneSlipSpec)) fnExactOneSlipUptoCard

/-- THE SECOND FORM's CARD OF 'laws.FnExactRightPlaces'. -/
def fnExactRightPlacesUptoCard : Claim7 := { stood := { row := fnExactRightPlacesUptoRow, standIns := [], harness := (true, "3f650c153b231735c5312218ebd67aca0331b5a1c43f37d88975837f3b6a7939"), looks := true }, kinds := [], alts := [], laidByText := true, laidKinds := [.sentinel, .sentinel, .sentinel], laidTests := true, laidLooks := .later }
def FnExactRightPlacesUptoCardSaid : Prop := Claim7.holds Tryd.pinned (.plain (OpenSpec.upto fnExactRightPlacesSpec)) fnExactRightPlacesUptoCard
end Rows
end Go.Proofs.YtgfffbnodinkcabDoor
