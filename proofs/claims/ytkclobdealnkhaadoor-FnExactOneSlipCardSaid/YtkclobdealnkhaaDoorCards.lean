/-
  DERIVED. GIVEN WITH THE SEED: THE CARDS: each row of YtkclobdealnkhaaDoorRows.lean that lists a variable, with what it lists TIED to the program's text (the seventh form; the later family's looks); each row that meets fmt, with fmt's text TOLD by the authors' own Lean function (tested against real Go, not proved from fmt's source: count such statements apart). THE CARD IS WHAT COUNTS. Prove the row's statement (the work); the ties are given (YtkclobdealnkhaaDoorTie.lean); close each card by the builder's one call (the guide's Derived/Test/ToyasCard.lean, 'card_holds'). Laid BY PROGRAM, IN A SANDBOX (cutbox-door.mjs). By AI agents, Wed Nov 11 2026. No macro, syntax, notation, axiom, sorry.
-/
import Derived.Test.YtkclobdealnkhaaDoorRows
import GoSem.ClaimSeven
namespace Go.Proofs.YtkclobdealnkhaaDoor
namespace Rows

/-- THE TIED CARD OF 'laws.FnExactOneSlip'. -/
def fnExactOneSlipCard : Claim7 := { stood := { row := fnExactOneSlipRow, standIns := [], harness := (true, "d8aab91853be9f8538227707ecb24bbaa8f8209da98a41b73b22e963daf9508b"), looks := true }, kinds := [], alts := [], laidByText := true, laidKinds := [.sentinel, .sentinel, .sentinel], laidTests := true, laidLooks := .later }
def FnExactOneSlipCardSaid : Prop := Claim7.holds Tryd.pinned (.plain (OpenSpec.ofChange fnExactOneSlipSpec)) fnExactOneSlipCard

/-- THE TIED CARD OF 'laws.FnExactCheckMoves'. -/
def fnExactCheckMovesCard : Claim7 := { stood := { row := fnExactCheckMovesRow, standIns := [], harness := (true, "d8aab91853be9f8538227707ecb24bbaa8f8209da98a41b73b22e963daf9508b"), looks := true }, kinds := [], alts := [], laidByText := true, laidKinds := [.sentinel, .sentinel, .sentinel], laidTests := true, laidLooks := .later }
def FnExactCheckMovesCardSaid : Prop := Claim7.holds Tryd.pinned (.plain (OpenSpec.ofChange fnExactCheckMovesSpec)) fnExactCheckMovesCard

/-- THE TIED CARD OF 'laws.FnExactRightPlaces'. -/
def fnExactRightPlacesCard : Claim7 := { stood := { row := fnExactRightPlacesRow, standIns := [], harness := (true, "d8aab91853be9f8538227707ecb24bbaa8f8209da98a41b73b22e963daf9508b"), looks := true }, kinds := [], alts := [], laidByText := true, laidKinds := [.sentinel, .sentinel, .sentinel], laidTests := true, laidLooks := .later }
def FnExactRightPlacesCardSaid : Prop := Claim7.holds Tryd.pinned (.plain (OpenSpec.ofChange fnExactRightPlacesSpec)) fnExactRightPlacesCard

/-- THE TIED CARD OF 'laws.FnExactSplitRack'. -/
def fnExactSplitRackCard : Claim7 := { stood := { row := fnExactSplitRackRow, standIns := [], harness := (true, "d8aab91853be9f8538227707ecb24bbaa8f8209da98a41b73b22e963daf9508b"), looks := true }, kinds := [], alts := [], laidByText := true, laidKinds := [.sentinel, .sentinel], laidTests := true, laidLooks := .later }
def FnExactSplitRackCardSaid : Prop := Claim7.holds Tryd.pinned (.plain (OpenSpec.ofChange fnExactSplitRackSpec)) fnExactSplitRackCard

/-- THE SECOND FORM's CARD OF 'laws.FnExactOneSlip'. -/
def fnExactOneSlipUptoCard : Claim7 := { stood := { row := fnExactOneSlipUptoRow, standIns := [], harness := (true, "d8aab91853be9f8538227707ecb24bbaa8f8209da98a41b73b22e963daf9508b"), looks := true }, kinds := [], alts := [], laidByText := true, laidKinds := [.sentinel, .sentinel, .sentinel], laidTests := true, laidLooks := .later }
def FnExactOneSlipUptoCardSaid : Prop := Claim7.holds Tryd.pinned (.plain (OpenSpec.upto fnExactOneSlipSpec)) fnExactOneSlipUptoCard

/-- THE SECOND FORM's CARD OF 'laws.FnExactCheckMoves'. -/
def fnExactCheckMovesUptoCard : Claim7 := { stood := { row := fnExactCheckMovesUptoRow, standIns := [], harness := (true, "d8aab91853be9f8538227707ecb24bbaa8f8209da98a41b73b22e963daf9508b"), looks := true }, kinds := [], alts := [], laidByText := true, laidKinds := [.sentinel, .sentinel, .sentinel], laidTests := true, laidLooks := .later }
def FnExactCheckMovesUptoCardSaid : Prop := Claim7.holds Tryd.pinned (.plain (OpenSpec.upto fnExactCheckMovesSpec)) fnExactCheckMovesUptoCard

/-- THE SECOND FORM's CARD OF 'laws.FnExactRightPlaces'. -/
def fnExactRightPlacesUptoCard : Claim7 := { stood := { row := fnExactRightPlacesUptoRow, standIns := [], harness := (true, "d8aab91853be9f8538227707ecb24bbaa8f8209da98a41b73b22e963daf9508b"), looks := true }, kinds := [], alts := [], laidByText := true, laidKinds := [.sentinel, .sentinel, .sentinel], laidTests := true, laidLooks := .later }
def FnExactRightPlacesUptoCardSaid : Prop := Claim7.holds Tryd.pinned (.plain (OpenSpec.upto fnExactRightPlacesSpec)) fnExactRightPlacesUptoCard

/-- THE SECOND FORM's CARD OF 'laws.FnExactSplitRack'. -/
def fnExactSplitRackUptoCard : Claim7 := { stood := { row := fnExactSplitRackUptoRow, standIns := [], harness := (true, "d8aab91853be9f8538227707ecb24bbaa8f8209da98a41b73b22e963daf9508b"), looks := true }, kinds := [], alts := [], laidByText := true, laidKinds := [.sentinel, .sentinel], laidTests := true, laidLooks := .later }
def FnExactSplitRackUptoCardSaid : Prop := Claim7.holds Tryd.pinned (.plain (OpenSpec.upto fnExactSplitRackSpec)) fnExactSplitRackUptoCard
end Rows
end Go.Proofs.YtkclobdealnkhaaDoor
