/-
  DERIVED. GIVEN WITH THE SEED: THE CARDS: each row of YtlphpajpjpohmaaDoorRows.lean that lists a variable, with what it lists TIED to the program's text (the seventh form; the later family's looks); each row that meets fmt, with fmt's text TOLD by the authors' own Lean function (tested against real Go, not proved from fmt's source: count such statements apart). THE CARD IS WHAT COUNTS. Prove the row's statement (the work); the ties are given (YtlphpajpjpohmaaDoorTie.lean); close each card by the builder's one call (the guide's Derived/Test/ToyasCard.lean, 'card_holds'). Laid BY PROGRAM, IN A SANDBOX (cutbox-door.mjs). By AI agents, Wed Nov 11 2026. No macro, syntax, notation, axiom, sorry.
-/
import Derived.Test.YtlphpajpjpohmaaDoorRows
import GoSem.ClaimSeven
namespace Go.Proofs.YtlphpajpjpohmaaDoor
namespace Rows

/-- THE TIED CARD OF 'laws.FnExactValidRack'. -/
def fnExactValidRackCard : Claim7 := { stood := { row := fnExactValidRackRow, standIns := [], harness := (true, "9a5c0fb07d9f21f1f47341597235cae098a13159e1a9f6a119f4bb5569a1f1ba"), looks := true }, kinds := [], alts := [], laidByText := true, laidKinds := [.sentinel, .sentinel], laidTests := true, laidLooks := .later }
def FnExactValidRackCardSaid : Prop := Claim7.holds Tryd.pinned (.plain (OpenSpec.ofChange fnExactValidRackSpec)) fnExactValidRackCard

/-- THE TIED CARD OF 'laws.FnExactBooksIn'. -/
def fnExactBooksInCard : Claim7 := { stood := { row := fnExactBooksInRow, standIns := [], harness := (true, "9a5c0fb07d9f21f1f47341597235cae098a13159e1a9f6a119f4bb5569a1f1ba"), looks := true }, kinds := [], alts := [], laidByText := true, laidKinds := [.sentinel, .sentinel], laidTests := true, laidLooks := .later }
def FnExactBooksInCardSaid : Prop := Claim7.holds Tryd.pinned (.plain (OpenSpec.ofChange fnExactBooksInSpec)) fnExactBooksInCard

/-- THE TIED CARD OF 'laws.FnExactFreePlaces'. -/
def fnExactFreePlacesCard : Claim7 := { stood := { row := fnExactFreePlacesRow, standIns := [], harness := (true, "9a5c0fb07d9f21f1f47341597235cae098a13159e1a9f6a119f4bb5569a1f1ba"), looks := true }, kinds := [], alts := [], laidByText := true, laidKinds := [.sentinel, .sentinel], laidTests := true, laidLooks := .later }
def FnExactFreePlacesCardSaid : Prop := Claim7.holds Tryd.pinned (.plain (OpenSpec.ofChange fnExactFreePlacesSpec)) fnExactFreePlacesCard

/-- THE TIED CARD OF 'laws.FnExactCrowdOf'. -/
def fnExactCrowdOfCard : Claim7 := { stood := { row := fnExactCrowdOfRow, standIns := [], harness := (true, "9a5c0fb07d9f21f1f47341597235cae098a13159e1a9f6a119f4bb5569a1f1ba"), looks := true }, kinds := [], alts := [], laidByText := true, laidKinds := [.sentinel, .sentinel], laidTests := true, laidLooks := .later }
def FnExactCrowdOfCardSaid : Prop := Claim7.holds Tryd.pinned (.plain (OpenSpec.ofChange fnExactCrowdOfSpec)) fnExactCrowdOfCard

/-- THE TIED CARD OF 'laws.FnExactWidestGap'. -/
def fnExactWidestGapCard : Claim7 := { stood := { row := fnExactWidestGapRow, standIns := [], harness := (true, "9a5c0fb07d9f21f1f47341597235cae098a13159e1a9f6a119f4bb5569a1f1ba"), looks := true }, kinds := [], alts := [], laidByText := true, laidKinds := [.sentinel, .sentinel], laidTests := true, laidLooks := .later }
def FnExactWidestGapCardSaid : Prop := Claim7.holds Tryd.pinned (.plain (OpenSpec.ofChange fnExactWidestGapSpec)) fnExactWidestGapCard

/-- THE TIED CARD OF 'laws.FnExactRoomFor'. -/
def fnExactRoomForCard : Claim7 := { stood := { row := fnExactRoomForRow, standIns := [], harness := (true, "9a5c0fb07d9f21f1f47341597235cae098a13159e1a9f6a119f4bb5569a1f1ba"), looks := true }, kinds := [], alts := [], laidByText := true, laidKinds := [.sentinel, .sentinel], laidTests := true, laidLooks := .later }
def FnExactRoomForCardSaid : Prop := Claim7.holds Tryd.pinned (.plain (OpenSpec.ofChange fnExactRoomForSpec)) fnExactRoomForCard

/-- THE TIED CARD OF 'laws.FnExactTakeBook'. -/
def fnExactTakeBookCard : Claim7 := { stood := { row := fnExactTakeBookRow, standIns := [], harness := (true, "9a5c0fb07d9f21f1f47341597235cae098a13159e1a9f6a119f4bb5569a1f1ba"), looks := true }, kinds := [], alts := [], laidByText := true, laidKinds := [.sentinel, .sentinel], laidTests := true, laidLooks := .later }
def FnExactTakeBookCardSaid : Prop := Claim7.holds Tryd.pinned (.plain (OpenSpec.ofChange fnExactTakeBookSpec)) fnExactTakeBookCard

/-- THE TIED CARD OF 'laws.FnExactSplitRack'. -/
def fnExactSplitRackCard : Claim7 := { stood := { row := fnExactSplitRackRow, standIns := [], harness := (true, "9a5c0fb07d9f21f1f47341597235cae098a13159e1a9f6a119f4bb5569a1f1ba"), looks := true }, kinds := [], alts := [], laidByText := true, laidKinds := [.sentinel, .sentinel], laidTests := true, laidLooks := .later }
def FnExactSplitRackCardSaid : Prop := Claim7.holds Tryd.pinned (.plain (OpenSpec.ofChange fnExactSplitRackSpec)) fnExactSplitRackCard

/-- THE TIED CARD OF 'laws.FnExactFillRack'. -/
def fnExactFillRackCard : Claim7 := { stood := { row := fnExactFillRackRow, standIns := [], harness := (true, "9a5c0fb07d9f21f1f47341597235cae098a13159e1a9f6a119f4bb5569a1f1ba"), looks := true }, kinds := [], alts := [], laidByText := true, laidKinds := [.sentinel, .sentinel, .sentinel], laidTests := true, laidLooks := .later }
def FnExactFillRackCardSaid : Prop := Claim7.holds Tryd.pinned (.plain (OpenSpec.ofChange fnExactFillRackSpec)) fnExactFillRackCard

/-- THE TIED CARD OF 'laws.FnExactEmptyRack'. -/
def fnExactEmptyRackCard : Claim7 := { stood := { row := fnExactEmptyRackRow, standIns := [], harness := (true, "9a5c0fb07d9f21f1f47341597235cae098a13159e1a9f6a119f4bb5569a1f1ba"), looks := true }, kinds := [], alts := [], laidByText := true, laidKinds := [.sentinel, .sentinel, .sentinel], laidTests := true, laidLooks := .later }
def FnExactEmptyRackCardSaid : Prop := Claim7.holds Tryd.pinned (.plain (OpenSpec.ofChange fnExactEmptyRackSpec)) fnExactEmptyRackCard

/-- THE TIED CARD OF 'laws.FnExactSpreadRack'. -/
def fnExactSpreadRackCard : Claim7 := { stood := { row := fnExactSpreadRackRow, standIns := [], harness := (true, "9a5c0fb07d9f21f1f47341597235cae098a13159e1a9f6a119f4bb5569a1f1ba"), looks := true }, kinds := [], alts := [], laidByText := true, laidKinds := [.sentinel, .sentinel], laidTests := true, laidLooks := .later }
def FnExactSpreadRackCardSaid : Prop := Claim7.holds Tryd.pinned (.plain (OpenSpec.ofChange fnExactSpreadRackSpec)) fnExactSpreadRackCard

/-- THE TIED CARD OF 'laws.FnExactMoveApart'. -/
def fnExactMoveApartCard : Claim7 := { stood := { row := fnExactMoveApartRow, standIns := [], harness := (true, "9a5c0fb07d9f21f1f47341597235cae098a13159e1a9f6a119f4bb5569a1f1ba"), looks := true }, kinds := [], alts := [], laidByText := true, laidKinds := [.sentinel, .sentinel], laidTests := true, laidLooks := .later }
def FnExactMoveApartCardSaid : Prop := Claim7.holds Tryd.pinned (.plain (OpenSpec.ofChange fnExactMoveApartSpec)) fnExactMoveApartCard

/-- THE SECOND FORM's CARD OF 'laws.FnExactValidRack'. -/
def fnExactValidRackUptoCard : Claim7 := { stood := { row := fnExactValidRackUptoRow, standIns := [], harness := (true, "9a5c0fb07d9f21f1f47341597235cae098a13159e1a9f6a119f4bb5569a1f1ba"), looks := true }, kinds := [], alts := [], laidByText := true, laidKinds := [.sentinel, .sentinel], laidTests := true, laidLooks := .later }
def FnExactValidRackUptoCardSaid : Prop := Claim7.holds Tryd.pinned (.plain (OpenSpec.upto fnExactValidRackSpec)) fnExactValidRackUptoCard

/-- THE SECOND FORM's CARD OF 'laws.FnExactBooksIn'. -/
def fnExactBooksInUptoCard : Claim7 := { stood := { row := fnExactBooksInUptoRow, standIns := [], harness := (true, "9a5c0fb07d9f21f1f47341597235cae098a13159e1a9f6a119f4bb5569a1f1ba"), looks := true }, kinds := [], alts := [], laidByText := true, laidKinds := [.sentinel, .sentinel], laidTests := true, laidLooks := .later }
def FnExactBooksInUptoCardSaid : Prop := Claim7.holds Tryd.pinned (.plain (OpenSpec.upto fnExactBooksInSpec)) fnExactBooksInUptoCard

/-- THE SECOND FORM's CARD OF 'laws.FnExactFreePlaces'. -/
def fnExactFreePlacesUptoCard : Claim7 := { stood := { row := fnExactFreePlacesUptoRow, standIns := [], harness := (true, "9a5c0fb07d9f21f1f47341597235cae098a13159e1a9f6a119f4bb5569a1f1ba"), looks := true }, kinds := [], alts := [], laidByText := true, laidKinds := [.sentinel, .sentinel], laidTests := true, laidLooks := .later }
def FnExactFreePlacesUptoCardSaid : Prop := Claim7.holds Tryd.pinned (.plain (OpenSpec.upto fnExactFreePlacesSpec)) fnExactFreePlacesUptoCard

/-- THE SECOND FORM's CARD OF 'laws.FnExactCrowdOf'. -/
def fnExactCrowdOfUptoCard : Claim7 := { stood := { row := fnExactCrowdOfUptoRow, standIns := [], harness := (true, "9a5c0fb07d9f21f1f47341597235cae098a13159e1a9f6a119f4bb5569a1f1ba"), looks := true }, kinds := [], alts := [], laidByText := true, laidKinds := [.sentinel, .sentinel], laidTests := true, laidLooks := .later }
def FnExactCrowdOfUptoCardSaid : Prop := Claim7.holds Tryd.pinned (.plain (OpenSpec.upto fnExactCrowdOfSpec)) fnExactCrowdOfUptoCard

/-- THE SECOND FORM's CARD OF 'laws.FnExactWidestGap'. -/
def fnExactWidestGapUptoCard : Claim7 := { stood := { row := fnExactWidestGapUptoRow, standIns := [], harness := (true, "9a5c0fb07d9f21f1f47341597235cae098a13159e1a9f6a119f4bb5569a1f1ba"), looks := true }, kinds := [], alts := [], laidByText := true, laidKinds := [.sentinel, .sentinel], laidTests := true, laidLooks := .later }
def FnExactWidestGapUptoCardSaid : Prop := Claim7.holds Tryd.pinned (.plain (OpenSpec.upto fnExactWidestGapSpec)) fnExactWidestGapUptoCard

/-- THE SECOND FORM's CARD OF 'laws.FnExactRoomFor'. -/
def fnExactRoomForUptoCard : Claim7 := { stood := { row := fnExactRoomForUptoRow, standIns := [], harness := (true, "9a5c0fb07d9f21f1f47341597235cae098a13159e1a9f6a119f4bb5569a1f1ba"), looks := true }, kinds := [], alts := [], laidByText := true, laidKinds := [.sentinel, .sentinel], laidTests := true, laidLooks := .later }
def FnExactRoomForUptoCardSaid : Prop := Claim7.holds Tryd.pinned (.plain (OpenSpec.upto fnExactRoomForSpec)) fnExactRoomForUptoCard

/-- THE SECOND FORM's CARD OF 'laws.FnExactTakeBook'. -/
def fnExactTakeBookUptoCard : Claim7 := { stood := { row := fnExactTakeBookUptoRow, standIns := [], harness := (true, "9a5c0fb07d9f21f1f47341597235cae098a13159e1a9f6a119f4bb5569a1f1ba"), looks := true }, kinds := [], alts := [], laidByText := true, laidKinds := [.sentinel, .sentinel], laidTests := true, laidLooks := .later }
def FnExactTakeBookUptoCardSaid : Prop := Claim7.holds Tryd.pinned (.plain (OpenSpec.upto fnExactTakeBookSpec)) fnExactTakeBookUptoCard

/-- THE SECOND FORM's CARD OF 'laws.FnExactSplitRack'. -/
def fnExactSplitRackUptoCard : Claim7 := { stood := { row := fnExactSplitRackUptoRow, standIns := [], harness := (true, "9a5c0fb07d9f21f1f47341597235cae098a13159e1a9f6a119f4bb5569a1f1ba"), looks := true }, kinds := [], alts := [], laidByText := true, laidKinds := [.sentinel, .sentinel], laidTests := true, laidLooks := .later }
def FnExactSplitRackUptoCardSaid : Prop := Claim7.holds Tryd.pinned (.plain (OpenSpec.upto fnExactSplitRackSpec)) fnExactSplitRackUptoCard

/-- THE SECOND FORM's CARD OF 'laws.FnExactFillRack'. -/
def fnExactFillRackUptoCard : Claim7 := { stood := { row := fnExactFillRackUptoRow, standIns := [], harness := (true, "9a5c0fb07d9f21f1f47341597235cae098a13159e1a9f6a119f4bb5569a1f1ba"), looks := true }, kinds := [], alts := [], laidByText := true, laidKinds := [.sentinel, .sentinel, .sentinel], laidTests := true, laidLooks := .later }
def FnExactFillRackUptoCardSaid : Prop := Claim7.holds Tryd.pinned (.plain (OpenSpec.upto fnExactFillRackSpec)) fnExactFillRackUptoCard

/-- THE SECOND FORM's CARD OF 'laws.FnExactEmptyRack'. -/
def fnExactEmptyRackUptoCard : Claim7 := { stood := { row := fnExactEmptyRackUptoRow, standIns := [], harness := (true, "9a5c0fb07d9f21f1f47341597235cae098a13159e1a9f6a119f4bb5569a1f1ba"), looks := true }, kinds := [], alts := [], laidByText := true, laidKinds := [.sentinel, .sentinel, .sentinel], laidTests := true, laidLooks := .later }
def FnExactEmptyRackUptoCardSaid : Prop := Claim7.holds Tryd.pinned (.plain (OpenSpec.upto fnExactEmptyRackSpec)) fnExactEmptyRackUptoCard

/-- THE SECOND FORM's CARD OF 'laws.FnExactSpreadRack'. -/
def fnExactSpreadRackUptoCard : Claim7 := { stood := { row := fnExactSpreadRackUptoRow, standIns := [], harness := (true, "9a5c0fb07d9f21f1f47341597235cae098a13159e1a9f6a119f4bb5569a1f1ba"), looks := true }, kinds := [], alts := [], laidByText := true, laidKinds := [.sentinel, .sentinel], laidTests := true, laidLooks := .later }
def FnExactSpreadRackUptoCardSaid : Prop := Claim7.holds Tryd.pinned (.plain (OpenSpec.upto fnExactSpreadRackSpec)) fnExactSpreadRackUptoCard

/-- THE SECOND FORM's CARD OF 'laws.FnExactMoveApart'. -/
def fnExactMoveApartUptoCard : Claim7 := { stood := { row := fnExactMoveApartUptoRow, standIns := [], harness := (true, "9a5c0fb07d9f21f1f47341597235cae098a13159e1a9f6a119f4bb5569a1f1ba"), looks := true }, kinds := [], alts := [], laidByText := true, laidKinds := [.sentinel, .sentinel], laidTests := true, laidLooks := .later }
def FnExactMoveApartUptoCardSaid : Prop := Claim7.holds Tryd.pinned (.plain (OpenSpec.upto fnExactMoveApartSpec)) fnExactMoveApartUptoCard
end Rows
end Go.Proofs.YtlphpajpjpohmaaDoor
