/-
  DERIVED. GIVEN WITH THE SEED: THE CARDS: each row of YtonclaakaaidlacDoorRows.lean that lists a variable, with what it lists TIED to the program's text (the seventh form; the later family's looks); each row that meets fmt, with fmt's text TOLD by the authors' own Lean function (tested against real Go, not proved from fmt's source: count such statements apart). THE CARD IS WHAT COUNTS. Prove the row's statement (the work); the ties are given (YtonclaakaaidlacDoorTie.lean); close each card by the builder's one call (the guide's Derived/Test/ToyasCard.lean, 'card_holds'). Laid BY PROGRAM, IN A SANDBOX (cutbox-door.mjs). By AI agents, Wed Nov 11 2026. No macro, syntax, notation, axiom, sorry.
-/
import Derived.Test.YtonclaakaaidlacDoorRows
import GoSem.ClaimSeven
namespace Go.Proofs.YtonclaakaaidlacDoor
namespace Rows

/-- THE TIED CARD OF 'laws.FnExactIsSorted'. -/
def fnExactIsSortedCard : Claim7 := { stood := { row := fnExactIsSortedRow, standIns := [], harness := (true, "09ae271780d002cfc45dfc14e465236ca64d585e6889cf3d409a0c9e92bca0ea"), looks := true }, kinds := [], alts := [], laidByText := true, laidKinds := [.sentinel, .sentinel, .sentinel], laidTests := true, laidLooks := .later }
def FnExactIsSortedCardSaid : Prop := Claim7.holds Tryd.pinned (.plain (OpenSpec.ofChange fnExactIsSortedSpec)) fnExactIsSortedCard

/-- THE TIED CARD OF 'laws.FnExactPlaceFor'. -/
def fnExactPlaceForCard : Claim7 := { stood := { row := fnExactPlaceForRow, standIns := [], harness := (true, "09ae271780d002cfc45dfc14e465236ca64d585e6889cf3d409a0c9e92bca0ea"), looks := true }, kinds := [], alts := [], laidByText := true, laidKinds := [.sentinel, .sentinel, .sentinel], laidTests := true, laidLooks := .later }
def FnExactPlaceForCardSaid : Prop := Claim7.holds Tryd.pinned (.plain (OpenSpec.ofChange fnExactPlaceForSpec)) fnExactPlaceForCard

/-- THE TIED CARD OF 'laws.FnExactFindBook'. -/
def fnExactFindBookCard : Claim7 := { stood := { row := fnExactFindBookRow, standIns := [], harness := (true, "09ae271780d002cfc45dfc14e465236ca64d585e6889cf3d409a0c9e92bca0ea"), looks := true }, kinds := [], alts := [], laidByText := true, laidKinds := [.sentinel, .sentinel, .sentinel], laidTests := true, laidLooks := .later }
def FnExactFindBookCardSaid : Prop := Claim7.holds Tryd.pinned (.plain (OpenSpec.ofChange fnExactFindBookSpec)) fnExactFindBookCard

/-- THE TIED CARD OF 'laws.FnExactClassRange'. -/
def fnExactClassRangeCard : Claim7 := { stood := { row := fnExactClassRangeRow, standIns := [], harness := (true, "09ae271780d002cfc45dfc14e465236ca64d585e6889cf3d409a0c9e92bca0ea"), looks := true }, kinds := [], alts := [], laidByText := true, laidKinds := [.sentinel, .sentinel, .sentinel], laidTests := true, laidLooks := .later }
def FnExactClassRangeCardSaid : Prop := Claim7.holds Tryd.pinned (.plain (OpenSpec.ofChange fnExactClassRangeSpec)) fnExactClassRangeCard

/-- THE TIED CARD OF 'laws.FnExactMergeBooks'. -/
def fnExactMergeBooksCard : Claim7 := { stood := { row := fnExactMergeBooksRow, standIns := [], harness := (true, "09ae271780d002cfc45dfc14e465236ca64d585e6889cf3d409a0c9e92bca0ea"), looks := true }, kinds := [], alts := [], laidByText := true, laidKinds := [.sentinel, .sentinel, .sentinel], laidTests := true, laidLooks := .later }
def FnExactMergeBooksCardSaid : Prop := Claim7.holds Tryd.pinned (.plain (OpenSpec.ofChange fnExactMergeBooksSpec)) fnExactMergeBooksCard

/-- THE SECOND FORM's CARD OF 'laws.FnExactIsSorted'. -/
def fnExactIsSortedUptoCard : Claim7 := { stood := { row := fnExactIsSortedUptoRow, standIns := [], harness := (true, "09ae271780d002cfc45dfc14e465236ca64d585e6889cf3d409a0c9e92bca0ea"), looks := true }, kinds := [], alts := [], laidByText := true, laidKinds := [.sentinel, .sentinel, .sentinel], laidTests := true, laidLooks := .later }
def FnExactIsSortedUptoCardSaid : Prop := Claim7.holds Tryd.pinned (.plain (OpenSpec.upto fnExactIsSortedSpec)) fnExactIsSortedUptoCard

/-- THE SECOND FORM's CARD OF 'laws.FnExactPlaceFor'. -/
def fnExactPlaceForUptoCard : Claim7 := { stood := { row := fnExactPlaceForUptoRow, standIns := [], harness := (true, "09ae271780d002cfc45dfc14e465236ca64d585e6889cf3d409a0c9e92bca0ea"), looks := true }, kinds := [], alts := [], laidByText := true, laidKinds := [.sentinel, .sentinel, .sentinel], laidTests := true, laidLooks := .later }
def FnExactPlaceForUptoCardSaid : Prop := Claim7.holds Tryd.pinned (.plain (OpenSpec.upto fnExactPlaceForSpec)) fnExactPlaceForUptoCard

/-- THE SECOND FORM's CARD OF 'laws.FnExactFindBook'. -/
def fnExactFindBookUptoCard : Claim7 := { stood := { row := fnExactFindBookUptoRow, standIns := [], harness := (true, "09ae271780d002cfc45dfc14e465236ca64d585e6889cf3d409a0c9e92bca0ea"), looks := true }, kinds := [], alts := [], laidByText := true, laidKinds := [.sentinel, .sentinel, .sentinel], laidTests := true, laidLooks := .later }
def FnExactFindBookUptoCardSaid : Prop := Claim7.holds Tryd.pinned (.plain (OpenSpec.upto fnExactFindBookSpec)) fnExactFindBookUptoCard

/-- THE SECOND FORM's CARD OF 'laws.FnExactClassRange'. -/
def fnExactClassRangeUptoCard : Claim7 := { stood := { row := fnExactClassRangeUptoRow, standIns := [], harness := (true, "09ae271780d002cfc45dfc14e465236ca64d585e6889cf3d409a0c9e92bca0ea"), looks := true }, kinds := [], alts := [], laidByText := true, laidKinds := [.sentinel, .sentinel, .sentinel], laidTests := true, laidLooks := .later }
def FnExactClassRangeUptoCardSaid : Prop := Claim7.holds Tryd.pinned (.plain (OpenSpec.upto fnExactClassRangeSpec)) fnExactClassRangeUptoCard

/-- THE SECOND FORM's CARD OF 'laws.FnExactMergeBooks'. -/
def fnExactMergeBooksUptoCard : Claim7 := { stood := { row := fnExactMergeBooksUptoRow, standIns := [], harness := (true, "09ae271780d002cfc45dfc14e465236ca64d585e6889cf3d409a0c9e92bca0ea"), looks := true }, kinds := [], alts := [], laidByText := true, laidKinds := [.sentinel, .sentinel, .sentinel], laidTests := true, laidLooks := .later }
def FnExactMergeBooksUptoCardSaid : Prop := Claim7.holds Tryd.pinned (.plain (OpenSpec.upto fnExactMergeBooksSpec)) fnExactMergeBooksUptoCard
end Rows
end Go.Proofs.YtonclaakaaidlacDoor
