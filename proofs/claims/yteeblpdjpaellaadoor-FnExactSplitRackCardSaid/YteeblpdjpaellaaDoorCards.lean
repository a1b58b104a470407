/-
  DERIVED. GIVEN WITH THE SEED: THE CARDS: each row of YteeblpdjpaellaaDoorRows.lean that lists a variable, with what it lists TIED to the program's text (the seventh form; the later family's looks); each row that meets fmt, with fmt's text TOLD by the authors' own Lean function (tested against real Go, not proved from fmt's source: count such statements apart). THE CARD IS WHAT COUNTS. Prove the row's statement (the work); the ties are given (YteeblpdjpaellaaDoorTie.lean); close each card by the builder's one call (the guide's Derived/Test/ToyasCard.lean, 'card_holds'). Laid BY PROGRAM, IN A SANDBOX (cutbox-door.mjs). By AI agents, Wed Nov 11 2026. No macro, syntax, notation, axiom, sorry.
-/
import Derived.Test.YteeblpdjpaellaaDoorRows
import GoSem.ClaimSeven
namespace Go.Proofs.YteeblpdjpaellaaDoor
namespace Rows

/-- THE TIED CARD OF 'laws.FnExactRightPlaces'. -/
def fnExactRightPlacesCard : Claim7 := { stood := { row := fnExactRightPlacesRow, standIns := [], harness := (true, "b6d03d787477d52faa7ab03197c34a6931bd395393ae321f0135025cde2362f9"), looks := true }, kinds := [], alts := [], laidByText := true, laidKinds := [.sentinel, .sentinel, .sentinel], laidTests := true, laidLooks := .later }
def FnExactRightPlacesCardSaid : Prop := Claim7.holds Tryd.pinned (.plain (OpenSpec.ofChange fnExactRightPlacesSpec)) fnExactRightPlacesCard

/-- THE TIED CARD OF 'laws.FnExactSplitRack'. -/
def fnExactSplitRackCard : Claim7 := { stood := { row := fnExactSplitRackRow, standIns := [], harness := (true, "b6d03d787477d52faa7ab03197c34a6931bd395393ae321f0135025cde2362f9"), looks := true }, kinds := [], alts := [], laidByText := true, laidKinds := [.sentinel, .sentinel], laidTests := true, laidLooks := .later }
def FnExactSplitRackCardSaid : Prop := Claim7.holds Tryd.pinned (.plain (OpenSpec.ofChange fnExactSplitRackSpec)) fnExactSplitRackCard

/-- THE TIED CARD OF 'laws.FnExactMergeBooks'. -/
def fnExactMergeBooksCard : Claim7 := { stood := { row := fnExactMergeBooksRow, standIns := [], harness := (true, "b6d03d787477d52faa7ab03197c34a6931bd395393ae321f0135025cde2362f9"), looks := true }, kinds := [], alts := [], laidByText := true, laidKinds := [.sentinel, .sentinel, .sentinel], laidTests := true, laidLooks := .later }
def FnExactMergeBooksCardSaid : Prop := Claim7.holds Tryd.pinned (.plain (OpenSpec.ofChange fnExactMergeBooksSpec)) fnExactMergeBooksCard

/-- THE SECOND FORM's CARD OF 'laws.FnExactRightPlaces'. -/
def fnExactRightPlacesUptoCard : Claim7 := { stood := { row := fnExactRightPlacesUptoRow, standIns := [], harness := (true, "b6d03d787477d52faa7ab03197c34a6931bd395393ae321f0135025cde2362f9"), looks := true }, kinds := [], alts := [], laidByText := true, laidKinds := [.sentinel, .sentinel, .sentinel], laidTests := true, laidLooks := .later }
def FnExactRightPlacesUptoCardSaid : Prop := Claim7.holds Tryd.pinned (.plain (OpenSpec.upto fnExactRightPlacesSpec)) fnExactRightPlacesUptoCard

/-- THE SECOND FORM's CARD OF 'laws.FnExactSplitRack'. -/
def fnExactSplitRackUptoCard : Claim7 := { stood := { row := fnExactSplitRackUptoRow, standIns := [], harness := (true, "b6d03d787477d52faa7ab03197c34a6931bd395393ae321f0135025cde2362f9"), looks := true }, kinds := [], alts := [], laidByText := true, laidKinds := [.sentinel, .sentinel], laidTests := true, laidLooks := .later }
def FnExactSplitRackUptoCardSaid : Prop := Claim7.holds Tryd.pinned (.plain (OpenSpec.upto fnExactSplitRackSpec)) fnExactSplitRackUptoCard

/-- THE SECOND FORM's CARD OF 'laws.FnExactMergeBooks'. -/
def fnExactMergeBooksUptoCard : Claim7 := { stood := { row := fnExactMergeBooksUptoRow, standIns := [], harness := (true, "b6d03d787477d52faa7ab03197c34a6931bd395393ae321f0135025cde2362f9"), looks := true }, kinds := [], alts := [], laidByText := true, laidKinds := [.sentinel, .sentinel, .sentinel], laidTests := true, laidLooks := .later }
def FnExactMergeBooksUptoCardSaid : Prop := Claim7.holds Tryd.pinned (.plain (OpenSpec.upto fnExactMergeBooksSpec)) fnExactMergeBooksUptoCard
end Rows
end Go.Proofs.YteeblpdjpaellaaDoor
