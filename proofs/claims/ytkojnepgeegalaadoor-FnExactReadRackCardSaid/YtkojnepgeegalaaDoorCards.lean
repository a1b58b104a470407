/-
  DERIVED. GIVEN WITH THE SEED: THE CARDS: each row of YtkojnepgeegalaaDoorRows.lean that lists a variable, with what it lists TIED to the program's text (the seventh form; the later family's looks); each row that meets fmt, with fmt's text TOLD by the authors' own Lean function (tested against real Go, not proved from fmt's source: count such statements apart). THE CARD IS WHAT COUNTS. Prove the row's statement (the work); the ties are given (YtkojnepgeegalaaDoorTie.lean); close each card by the builder's one call (the guide's Derived/Test/ToyasCard.lean, 'card_holds'). Laid BY PROGRAM, IN A SANDBOX (cutbox-door.mjs). By AI agents, Wed Nov 11 2026. No macro, syntax, notation, axiom, sorry.
-/
import Derived.Test.YtkojnepgeegalaaDoorRows
import GoSem.ClaimSeven
namespace Go.Proofs.YtkojnepgeegalaaDoor
namespace Rows

/-- THE TIED CARD OF 'laws.FnExactReadBook'. -/
def fnExactReadBookCard : Claim7 := { stood := { row := fnExactReadBookRow, standIns := [], harness := (true, "f6ca25ce34ed88ef460ec9a312bd459fb48347d971c15dddc5a7e3067d650966"), looks := true }, kinds := [], alts := [], laidByText := true, laidKinds := [.sentinel, .sentinel], laidTests := true, laidLooks := .later }
def FnExactReadBookCardSaid : Prop := Claim7.holds Tryd.pinned (.plain (OpenSpec.ofChange fnExactReadBookSpec)) fnExactReadBookCard

/-- THE TIED CARD OF 'laws.FnExactReadBooks'. -/
def fnExactReadBooksCard : Claim7 := { stood := { row := fnExactReadBooksRow, standIns := [], harness := (true, "f6ca25ce34ed88ef460ec9a312bd459fb48347d971c15dddc5a7e3067d650966"), looks := true }, kinds := [], alts := [], laidByText := true, laidKinds := [.sentinel, .sentinel], laidTests := true, laidLooks := .later }
def FnExactReadBooksCardSaid : Prop := Claim7.holds Tryd.pinned (.plain (OpenSpec.ofChange fnExactReadBooksSpec)) fnExactReadBooksCard

/-- THE TIED CARD OF 'laws.FnExactReadMoves'. -/
def fnExactReadMovesCard : Claim7 := { stood := { row := fnExactReadMovesRow, standIns := [], harness := (true, "f6ca25ce34ed88ef460ec9a312bd459fb48347d971c15dddc5a7e3067d650966"), looks := true }, kinds := [], alts := [], laidByText := true, laidKinds := [.sentinel, .sentinel], laidTests := true, laidLooks := .later }
def FnExactReadMovesCardSaid : Prop := Claim7.holds Tryd.pinned (.plain (OpenSpec.ofChange fnExactReadMovesSpec)) fnExactReadMovesCard

/-- THE TIED CARD OF 'laws.FnExactReadAct'. -/
def fnExactReadActCard : Claim7 := { stood := { row := fnExactReadActRow, standIns := [], harness := (true, "f6ca25ce34ed88ef460ec9a312bd459fb48347d971c15dddc5a7e3067d650966"), looks := true }, kinds := [], alts := [], laidByText := true, laidKinds := [.sentinel, .sentinel], laidTests := true, laidLooks := .later }
def FnExactReadActCardSaid : Prop := Claim7.holds Tryd.pinned (.plain (OpenSpec.ofChange fnExactReadActSpec)) fnExactReadActCard

/-- THE TIED CARD OF 'laws.FnExactReadActs'. -/
def fnExactReadActsCard : Claim7 := { stood := { row := fnExactReadActsRow, standIns := [], harness := (true, "f6ca25ce34ed88ef460ec9a312bd459fb48347d971c15dddc5a7e3067d650966"), looks := true }, kinds := [], alts := [], laidByText := true, laidKinds := [.sentinel, .sentinel], laidTests := true, laidLooks := .later }
def FnExactReadActsCardSaid : Prop := Claim7.holds Tryd.pinned (.plain (OpenSpec.ofChange fnExactReadActsSpec)) fnExactReadActsCard

/-- THE TIED CARD OF 'laws.FnExactReadCase'. -/
def fnExactReadCaseCard : Claim7 := { stood := { row := fnExactReadCaseRow, standIns := [], harness := (true, "f6ca25ce34ed88ef460ec9a312bd459fb48347d971c15dddc5a7e3067d650966"), looks := true }, kinds := [], alts := [], laidByText := true, laidKinds := [.sentinel, .sentinel], laidTests := true, laidLooks := .later }
def FnExactReadCaseCardSaid : Prop := Claim7.holds Tryd.pinned (.plain (OpenSpec.ofChange fnExactReadCaseSpec)) fnExactReadCaseCard

/-- THE TIED CARD OF 'laws.FnExactReadRack'. -/
def fnExactReadRackCard : Claim7 := { stood := { row := fnExactReadRackRow, standIns := [], harness := (true, "f6ca25ce34ed88ef460ec9a312bd459fb48347d971c15dddc5a7e3067d650966"), looks := true }, kinds := [], alts := [], laidByText := true, laidKinds := [.sentinel, .sentinel, .sentinel], laidTests := true, laidLooks := .later }
def FnExactReadRackCardSaid : Prop := Claim7.holds Tryd.pinned (.plain (OpenSpec.ofChange fnExactReadRackSpec)) fnExactReadRackCard

/-- THE SECOND FORM's CARD OF 'laws.FnExactReadBook'. -/
def fnExactReadBookUptoCard : Claim7 := { stood := { row := fnExactReadBookUptoRow, standIns := [], harness := (true, "f6ca25ce34ed88ef460ec9a312bd459fb48347d971c15dddc5a7e3067d650966"), looks := true }, kinds := [], alts := [], laidByText := true, laidKinds := [.sentinel, .sentinel], laidTests := true, laidLooks := .later }
def FnExactReadBookUptoCardSaid : Prop := Claim7.holds Tryd.pinned (.plain (OpenSpec.upto fnExactReadBookSpec)) fnExactReadBookUptoCard

/-- THE SECOND FORM's CARD OF 'laws.FnExactReadBooks'. -/
def fnExactReadBooksUptoCard : Claim7 := { stood := { row := fnExactReadBooksUptoRow, standIns := [], harness := (true, "f6ca25ce34ed88ef460ec9a312bd459fb48347d971c15dddc5a7e3067d650966"), looks := true }, kinds := [], alts := [], laidByText := true, laidKinds := [.sentinel, .sentinel], laidTests := true, laidLooks := .later }
def FnExactReadBooksUptoCardSaid : Prop := Claim7.holds Tryd.pinned (.plain (OpenSpec.upto fnExactReadBooksSpec)) fnExactReadBooksUptoCard

/-- THE SECOND FORM's CARD OF 'laws.FnExactReadMoves'. -/
def fnExactReadMovesUptoCard : Claim7 := { stood := { row := fnExactReadMovesUptoRow, standIns := [], harness := (true, "f6ca25ce34ed88ef460ec9a312bd459fb48347d971c15dddc5a7e3067d650966"), looks := true }, kinds := [], alts := [], laidByText := true, laidKinds := [.sentinel, .sentinel], laidTests := true, laidLooks := .later }
def FnExactReadMovesUptoCardSaid : Prop := Claim7.holds Tryd.pinned (.plain (OpenSpec.upto fnExactReadMovesSpec)) fnExactReadMovesUptoCard

/-- THE SECOND FORM's CARD OF 'laws.FnExactReadAct'. -/
def fnExactReadActUptoCard : Claim7 := { stood := { row := fnExactReadActUptoRow, standIns := [], harness := (true, "f6ca25ce34ed88ef460ec9a312bd459fb48347d971c15dddc5a7e3067d650966"), looks := true }, kinds := [], alts := [], laidByText := true, laidKinds := [.sentinel, .sentinel], laidTests := true, laidLooks := .later }
def FnExactReadActUptoCardSaid : Prop := Claim7.holds Tryd.pinned (.plain (OpenSpec.upto fnExactReadActSpec)) fnExactReadActUptoCard

/-- THE SECOND FORM's CARD OF 'laws.FnExactReadActs'. -/
def fnExactReadActsUptoCard : Claim7 := { stood := { row := fnExactReadActsUptoRow, standIns := [], harness := (true, "f6ca25ce34ed88ef460ec9a312bd459fb48347d971c15dddc5a7e3067d650966"), looks := true }, kinds := [], alts := [], laidByText := true, laidKinds := [.sentinel, .sentinel], laidTests := true, laidLooks := .later }
def FnExactReadActsUptoCardSaid : Prop := Claim7.holds Tryd.pinned (.plain (OpenSpec.upto fnExactReadActsSpec)) fnExactReadActsUptoCard

/-- THE SECOND FORM's CARD OF 'laws.FnExactReadCase'. -/
def fnExactReadCaseUptoCard : Claim7 := { stood := { row := fnExactReadCaseUptoRow, standIns := [], harness := (true, "f6ca25ce34ed88ef460ec9a312bd459fb48347d971c15dddc5a7e3067d650966"), looks := true }, kinds := [], alts := [], laidByText := true, laidKinds := [.sentinel, .sentinel], laidTests := true, laidLooks := .later }
def FnExactReadCaseUptoCardSaid : Prop := Claim7.holds Tryd.pinned (.plain (OpenSpec.upto fnExactReadCaseSpec)) fnExactReadCaseUptoCard

/-- THE SECOND FORM's CARD OF 'laws.FnExactReadRack'. -/
def fnExactReadRackUptoCard : Claim7 := { stood := { row := fnExactReadRackUptoRow, standIns := [], harness := (true, "f6ca25ce34ed88ef460ec9a312bd459fb48347d971c15dddc5a7e3067d650966"), looks := true }, kinds := [], alts := [], laidByText := true, laidKinds := [.sentinel, .sentinel, .sentinel], laidTests := true, laidLooks := .later }
def FnExactReadRackUptoCardSaid : Prop := Claim7.holds Tryd.pinned (.plain (OpenSpec.upto fnExactReadRackSpec)) fnExactReadRackUptoCard
end Rows
end Go.Proofs.YtkojnepgeegalaaDoor
