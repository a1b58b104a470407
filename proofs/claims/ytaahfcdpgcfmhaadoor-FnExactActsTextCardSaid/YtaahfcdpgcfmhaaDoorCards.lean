/-
  DERIVED. GIVEN WITH THE SEED: THE CARDS: each row of YtaahfcdpgcfmhaaDoorRows.lean that lists a variable, with what it lists TIED to the program's text (the seventh form; the later family's looks); each row that meets fmt, with fmt's text TOLD by the authors' own Lean function (tested against real Go, not proved from fmt's source: count such statements apart). THE CARD IS WHAT COUNTS. Prove the row's statement (the work); the ties are given (YtaahfcdpgcfmhaaDoorTie.lean); close each card by the builder's one call (the guide's Derived/Test/ToyasCard.lean, 'card_holds'). Laid BY PROGRAM, IN A SANDBOX (cutbox-door.mjs). By AI agents, Wed Nov 11 2026. No macro, syntax, notation, axiom, sorry.
-/
import Derived.Test.YtaahfcdpgcfmhaaDoorRows
import GoSem.ClaimSeven
namespace Go.Proofs.YtaahfcdpgcfmhaaDoor
namespace Rows

/-- THE TIED CARD OF 'laws.FnExactOneSlip'. -/
def fnExactOneSlipCard : Claim7 := { stood := { row := fnExactOneSlipRow, standIns := [], harness := (true, "3d67d4e9df6356b091ee3ecd2bbc3801002f1dbad70f7f0c2386b09089980e68"), looks := true }, kinds := [], alts := [], laidByText := true, laidKinds := [.sentinel, .sentinel, .sentinel], laidTests := true, laidLooks := .later }
def FnExactOneSlipCardSaid : Prop := Claim7.holds Tryd.pinned (.plain (OpenSpec.ofChange fnExactOneSlipSpec)) fnExactOneSlipCard

/-- THE TIED CARD OF 'laws.FnExactRightPlaces'. -/
def fnExactRightPlacesCard : Claim7 := { stood := { row := fnExactRightPlacesRow, standIns := [], harness := (true, "3d67d4e9df6356b091ee3ecd2bbc3801002f1dbad70f7f0c2386b09089980e68"), looks := true }, kinds := [], alts := [], laidByText := true, laidKinds := [.sentinel, .sentinel, .sentinel], laidTests := true, laidLooks := .later }
def FnExactRightPlacesCardSaid : Prop := Claim7.holds Tryd.pinned (.plain (OpenSpec.ofChange fnExactRightPlacesSpec)) fnExactRightPlacesCard

/-- THE TIED CARD OF 'laws.FnExactBookText'. -/
def fnExactBookTextCard : Claim7 := { stood := { row := fnExactBookTextRow, standIns := [], harness := (true, "3d67d4e9df6356b091ee3ecd2bbc3801002f1dbad70f7f0c2386b09089980e68"), looks := true }, kinds := [], alts := [], laidByText := true, laidKinds := [.data, .data, .data], laidTests := true, laidLooks := .later }
def FnExactBookTextCardSaid : Prop := Claim7.holds Tryd.pinned (.plain (OpenSpec.ofChange fnExactBookTextSpec)) fnExactBookTextCard

/-- THE TIED CARD OF 'laws.FnExactBooksText'. -/
def fnExactBooksTextCard : Claim7 := { stood := { row := fnExactBooksTextRow, standIns := [], harness := (true, "3d67d4e9df6356b091ee3ecd2bbc3801002f1dbad70f7f0c2386b09089980e68"), looks := true }, kinds := [], alts := [], laidByText := true, laidKinds := [.data, .data, .data], laidTests := true, laidLooks := .later }
def FnExactBooksTextCardSaid : Prop := Claim7.holds Tryd.pinned (.plain (OpenSpec.ofChange fnExactBooksTextSpec)) fnExactBooksTextCard

/-- THE TIED CARD OF 'laws.FnExactCaseText'. -/
def fnExactCaseTextCard : Claim7 := { stood := { row := fnExactCaseTextRow, standIns := [], harness := (true, "3d67d4e9df6356b091ee3ecd2bbc3801002f1dbad70f7f0c2386b09089980e68"), looks := true }, kinds := [], alts := [], laidByText := true, laidKinds := [.data, .data, .data], laidTests := true, laidLooks := .later }
def FnExactCaseTextCardSaid : Prop := Claim7.holds Tryd.pinned (.plain (OpenSpec.ofChange fnExactCaseTextSpec)) fnExactCaseTextCard

/-- THE TIED CARD OF 'laws.FnExactLayoutText'. -/
def fnExactLayoutTextCard : Claim7 := { stood := { row := fnExactLayoutTextRow, standIns := [], harness := (true, "3d67d4e9df6356b091ee3ecd2bbc3801002f1dbad70f7f0c2386b09089980e68"), looks := true }, kinds := [], alts := [], laidByText := true, laidKinds := [.data, .data, .data], laidTests := true, laidLooks := .later }
def FnExactLayoutTextCardSaid : Prop := Claim7.holds Tryd.pinned (.plain (OpenSpec.ofChange fnExactLayoutTextSpec)) fnExactLayoutTextCard

/-- THE TIED CARD OF 'laws.FnExactMovesText'. -/
def fnExactMovesTextCard : Claim7 := { stood := { row := fnExactMovesTextRow, standIns := [], harness := (true, "3d67d4e9df6356b091ee3ecd2bbc3801002f1dbad70f7f0c2386b09089980e68"), looks := true }, kinds := [], alts := [], laidByText := true, laidKinds := [.data, .data, .data], laidTests := true, laidLooks := .later }
def FnExactMovesTextCardSaid : Prop := Claim7.holds Tryd.pinned (.plain (OpenSpec.ofChange fnExactMovesTextSpec)) fnExactMovesTextCard

/-- THE TIED CARD OF 'laws.FnExactHeightsText'. -/
def fnExactHeightsTextCard : Claim7 := { stood := { row := fnExactHeightsTextRow, standIns := [], harness := (true, "3d67d4e9df6356b091ee3ecd2bbc3801002f1dbad70f7f0c2386b09089980e68"), looks := true }, kinds := [], alts := [], laidByText := true, laidKinds := [.data, .data, .data], laidTests := true, laidLooks := .later }
def FnExactHeightsTextCardSaid : Prop := Claim7.holds Tryd.pinned (.plain (OpenSpec.ofChange fnExactHeightsTextSpec)) fnExactHeightsTextCard

/-- THE TIED CARD OF 'laws.FnExactRackText'. -/
def fnExactRackTextCard : Claim7 := { stood := { row := fnExactRackTextRow, standIns := [], harness := (true, "3d67d4e9df6356b091ee3ecd2bbc3801002f1dbad70f7f0c2386b09089980e68"), looks := true }, kinds := [], alts := [], laidByText := true, laidKinds := [.sentinel, .sentinel], laidTests := true, laidLooks := .later }
def FnExactRackTextCardSaid : Prop := Claim7.holds Tryd.pinned (.plain (OpenSpec.ofChange fnExactRackTextSpec)) fnExactRackTextCard

/-- THE TIED CARD OF 'laws.FnExactActText'. -/
def fnExactActTextCard : Claim7 := { stood := { row := fnExactActTextRow, standIns := [], harness := (true, "3d67d4e9df6356b091ee3ecd2bbc3801002f1dbad70f7f0c2386b09089980e68"), looks := true }, kinds := [], alts := [], laidByText := true, laidKinds := [.data, .data, .data], laidTests := true, laidLooks := .later }
def FnExactActTextCardSaid : Prop := Claim7.holds Tryd.pinned (.plain (OpenSpec.ofChange fnExactActTextSpec)) fnExactActTextCard

/-- THE TIED CARD OF 'laws.FnExactActsText'. -/
def fnExactActsTextCard : Claim7 := { stood := { row := fnExactActsTextRow, standIns := [], harness := (true, "3d67d4e9df6356b091ee3ecd2bbc3801002f1dbad70f7f0c2386b09089980e68"), looks := true }, kinds := [], alts := [], laidByText := true, laidKinds := [.data, .data, .data], laidTests := true, laidLooks := .later }
def FnExactActsTextCardSaid : Prop := Claim7.holds Tryd.pinned (.plain (OpenSpec.ofChange fnExactActsTextSpec)) fnExactActsTextCard

/-- THE TIED CARD OF 'laws.FnExactSplitRack'. -/
def fnExactSplitRackCard : Claim7 := { stood := { row := fnExactSplitRackRow, standIns := [], harness := (true, "3d67d4e9df6356b091ee3ecd2bbc3801002f1dbad70f7f0c2386b09089980e68"), looks := true }, kinds := [], alts := [], laidByText := true, laidKinds := [.sentinel, .sentinel], laidTests := true, laidLooks := .later }
def FnExactSplitRackCardSaid : Prop := Claim7.holds Tryd.pinned (.plain (OpenSpec.ofChange fnExactSplitRackSpec)) fnExactSplitRackCard

/-- THE SECOND FORM's CARD OF 'laws.FnExactOneSlip'. -/
def fnExactOneSlipUptoCard : Claim7 := { stood := { row := fnExactOneSlipUptoRow, standIns := [], harness := (true, "3d67d4e9df6356b091ee3ecd2bbc3801002f1dbad70f7f0c2386b09089980e68"), looks := true }, kinds := [], alts := [], laidByText := true, laidKinds := [.sentinel, .sentinel, .sentinel], laidTests := true, laidLooks := .later }
def FnExactOneSlipUptoCardSaid : Prop := Claim7.holds Tryd.pinned (.plain (OpenSpec.upto fnExactOneSlipSpec)) fnExactOneSlipUptoCard

/-- THE SECOND FORM's CARD OF 'laws.FnExactRightPlaces'. -/
def fnExactRightPlacesUptoCard : Claim7 := { stood := { row := fnExactRightPlacesUptoRow, standIns := [], harness := (true, "3d67d4e9df6356b091ee3ecd2bbc3801002f1dbad70f7f0c2386b09089980e68"), looks := true }, kinds := [], alts := [], laidByText := true, laidKinds := [.sentinel, .sentinel, .sentinel], laidTests := true, laidLooks := .later }
def FnExactRightPlacesUptoCardSaid : Prop := Claim7.holds Tryd.pinned (.plain (OpenSpec.upto fnExactRightPlacesSpec)) fnExactRightPlacesUptoCard

/-- THE SECOND FORM's CARD OF 'laws.FnExactBookText'. -/
def fnExactBookTextUptoCard : Claim7 := { stood := { row := fnExactBookTextUptoRow, standIns := [], harness := (true, "3d67d4e9df6356b091ee3ecd2bbc3801002f1dbad70f7f0c2386b09089980e68"), looks := true }, kinds := [], alts := [], laidByText := true, laidKinds := [.data, .data, .data], laidTests := true, laidLooks := .later }
def FnExactBookTextUptoCardSaid : Prop := Claim7.holds Tryd.pinned (.plain (OpenSpec.upto fnExactBookTextSpec)) fnExactBookTextUptoCard

/-- THE SECOND FORM's CARD OF 'laws.FnExactBooksText'. -/
def fnExactBooksTextUptoCard : Claim7 := { stood := { row := fnExactBooksTextUptoRow, standIns := [], harness := (true, "3d67d4e9df6356b091ee3ecd2bbc3801002f1dbad70f7f0c2386b09089980e68"), looks := true }, kinds := [], alts := [], laidByText := true, laidKinds := [.data, .data, .data], laidTests := true, laidLooks := .later }
def FnExactBooksTextUptoCardSaid : Prop := Claim7.holds Tryd.pinned (.plain (OpenSpec.upto fnExactBooksTextSpec)) fnExactBooksTextUptoCard

/-- THE SECOND FORM's CARD OF 'laws.FnExactCaseText'. -/
def fnExactCaseTextUptoCard : Claim7 := { stood := { row := fnExactCaseTextUptoRow, standIns := [], harness := (true, "3d67d4e9df6356b091ee3ecd2bbc3801002f1dbad70f7f0c2386b09089980e68"), looks := true }, kinds := [], alts := [], laidByText := true, laidKinds := [.data, .data, .data], laidTests := true, laidLooks := .later }
def FnExactCaseTextUptoCardSaid : Prop := Claim7.holds Tryd.pinned (.plain (OpenSpec.upto fnExactCaseTextSpec)) fnExactCaseTextUptoCard

/-- THE SECOND FORM's CARD OF 'laws.FnExactLayoutText'. -/
def fnExactLayoutTextUptoCard : Claim7 := { stood := { row := fnExactLayoutTextUptoRow, standIns := [], harness := (true, "3d67d4e9df6356b091ee3ecd2bbc3801002f1dbad70f7f0c2386b09089980e68"), looks := true }, kinds := [], alts := [], laidByText := true, laidKinds := [.data, .data, .data], laidTests := true, laidLooks := .later }
def FnExactLayoutTextUptoCardSaid : Prop := Claim7.holds Tryd.pinned (.plain (OpenSpec.upto fnExactLayoutTextSpec)) fnExactLayoutTextUptoCard

/-- THE SECOND FORM's CARD OF 'laws.FnExactMovesText'. -/
def fnExactMovesTextUptoCard : Claim7 := { stood := { row := fnExactMovesTextUptoRow, standIns := [], harness := (true, "3d67d4e9df6356b091ee3ecd2bbc3801002f1dbad70f7f0c2386b09089980e68"), looks := true }, kinds := [], alts := [], laidByText := true, laidKinds := [.data, .data, .data], laidTests := true, laidLooks := .later }
def FnExactMovesTextUptoCardSaid : Prop := Claim7.holds Tryd.pinned (.plain (OpenSpec.upto fnExactMovesTextSpec)) fnExactMovesTextUptoCard

/-- THE SECOND FORM's CARD OF 'laws.FnExactHeightsText'. -/
def fnExactHeightsTextUptoCard : Claim7 := { stood := { row := fnExactHeightsTextUptoRow, standIns := [], harness := (true, "3d67d4e9df6356b091ee3ecd2bbc3801002f1dbad70f7f0c2386b09089980e68"), looks := true }, kinds := [], alts := [], laidByText := true, laidKinds := [.data, .data, .data], laidTests := true, laidLooks := .later }
def FnExactHeightsTextUptoCardSaid : Prop := Claim7.holds Tryd.pinned (.plain (OpenSpec.upto fnExactHeightsTextSpec)) fnExactHeightsTextUptoCard

/-- THE SECOND FORM's CARD OF 'laws.FnExactRackText'. -/
def fnExactRackTextUptoCard : Claim7 := { stood := { row := fnExactRackTextUptoRow, standIns := [], harness := (true, "3d67d4e9df6356b091ee3ecd2bbc3801002f1dbad70f7f0c2386b09089980e68"), looks := true }, kinds := [], alts := [], laidByText := true, laidKinds := [.sentinel, .sentinel], laidTests := true, laidLooks := .later }
def FnExactRackTextUptoCardSaid : Prop := Claim7.holds Tryd.pinned (.plain (OpenSpec.upto fnExactRackTextSpec)) fnExactRackTextUptoCard

/-- THE SECOND FORM's CARD OF 'laws.FnExactActText'. -/
def fnExactActTextUptoCard : Claim7 := { stood := { row := fnExactActTextUptoRow, standIns := [], harness := (true, "3d67d4e9df6356b091ee3ecd2bbc3801002f1dbad70f7f0c2386b09089980e68"), looks := true }, kinds := [], alts := [], laidByText := true, laidKinds := [.data, .data, .data], laidTests := true, laidLooks := .later }
def FnExactActTextUptoCardSaid : Prop := Claim7.holds Tryd.pinned (.plain (OpenSpec.upto fnExactActTextSpec)) fnExactActTextUptoCard

/-- THE SECOND FORM's CARD OF 'laws.FnExactActsText'. -/
def fnExactActsTextUptoCard : Claim7 := { stood := { row := fnExactActsTextUptoRow, standIns := [], harness := (true, "3d67d4e9df6356b091ee3ecd2bbc3801002f1dbad70f7f0c2386b09089980e68"), looks := true }, kinds := [], alts := [], laidByText := true, laidKinds := [.data, .data, .data], laidTests := true, laidLooks := .later }
def FnExactActsTextUptoCardSaid : Prop := Claim7.holds Tryd.pinned (.plain (OpenSpec.upto fnExactActsTextSpec)) fnExactActsTextUptoCard

/-- THE SECOND FORM's CARD OF 'laws.FnExactSplitRack'. -/
def fnExactSplitRackUptoCard : Claim7 := { stood := { row := fnExactSplitRackUptoRow, standIns := [], harness := (true, "3d67d4e9df6356b091ee3ecd2bbc3801002f1dbad70f7f0c2386b09089980e68"), looks := true }, kinds := [], alts := [], laidByText := true, laidKinds := [.sentinel, .sentinel], laidTests := true, laidLooks := .later }
def FnExactSplitRackUptoCardSaid : Prop := Claim7.holds Tryd.pinned (.plain (OpenSpec.upto fnExactSplitRackSpec)) fnExactSplitRackUptoCard
end Rows
end Go.Proofs.YtaahfcdpgcfmhaaDoor
