/-
  DERIVED. GIVEN WITH THE SEED: THE CARDS: each row of YtgmipobohnagnaaDoorRows.lean that lists a variable, with what it lists TIED to the program's text (the seventh form; the later family's looks); each row that meets fmt, with fmt's text TOLD by the authors' own Lean function (tested against real Go, not proved from fmt's source: count such statements apart). THE CARD IS WHAT COUNTS. Prove the row's statement (the work); the ties are given (YtgmipobohnagnaaDoorTie.lean); close each card by the builder's one call (the guide's Derived/Test/ToyasCard.lean, 'card_holds'). Laid BY PROGRAM, IN A SANDBOX (cutbox-door.mjs). By AI agents, Wed Nov 11 2026. No macro, syntax, notation, axiom, sorry.
-/
import Derived.Test.YtgmipobohnagnaaDoorRows
import GoSem.ClaimSeven
namespace Go.Proofs.YtgmipobohnagnaaDoor
namespace Rows

/-- THE TIED CARD OF 'laws.FnExactJoinRacks'. -/
def fnExactJoinRacksCard : Claim7 := { stood := { row := fnExactJoinRacksRow, standIns := [], harness := (true, "24cf0c6f7573396d9fc6034224dfecaee6728ffc92bf293230e82dacf9b4cf76"), looks := true }, kinds := [], alts := [], laidByText := true, laidKinds := [.sentinel, .sentinel], laidTests := true, laidLooks := .later }
def FnExactJoinRacksCardSaid : Prop := Claim7.holds Tryd.pinned (.plain (OpenSpec.ofChange fnExactJoinRacksSpec)) fnExactJoinRacksCard

/-- THE SECOND FORM's CARD OF 'laws.FnExactJoinRacks'. -/
def fnExactJoinRacksUptoCard : Claim7 := { stood := { row := fnExactJoinRacksUptoRow, standIns := [], harness := (true, "24cf0c6f7573396d9fc6034224dfecaee6728ffc92bf293230e82dacf9b4cf76"), looks := true }, kinds := [], alts := [], laidByText := true, laidKinds := [.sentinel, .sentinel], laidTests := true, laidLooks := .later }
def FnExactJoinRacksUptoCardSaid : Prop := Claim7.holds Tryd.pinned (.plain (OpenSpec.upto fnExactJoinRacksSpec)) fnExactJoinRacksUptoCard
end Rows
end Go.Proofs.YtgmipobohnagnaaDoor
