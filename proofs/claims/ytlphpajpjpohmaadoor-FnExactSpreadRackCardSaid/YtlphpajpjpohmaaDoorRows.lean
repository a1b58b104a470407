/-
  NARROWER THAN 'FOR EVERY INPUT', by the rows' own cells (each row's printed sentence says how): FnExactValidRack: ifaces, laid · FnExactBooksIn: ifaces, laid · FnExactFreePlaces: ifaces, laid · FnExactCrowdOf: ifaces, laid · FnExactWidestGap: ifaces, laid · FnExactRoomFor: ifaces, laid · FnExactTakeBook: ifaces, laid · FnExactSplitRack: ifaces, laid · FnExactFillRack: ifaces, laid · FnExactEmptyRack: ifaces, laid · FnExactSpreadRack: ifaces, laid · FnExactMoveApart: ifaces, laid.
  DERIVED. THE GIVEN ROWS OF THIS SEAT. 12 by the template 'for every input the law returns true; each argument reads behind the call as it read before'; 0 by the template 'total and deterministic' (their statements: YtlphpajpjpohmaaDoorTotals.lean).
  GIVEN WITH THE SEED: the statements are not yours to turn. If you find one false, say at which input.
  Laid BY PROGRAM, IN A SANDBOX (cutbox-rows.mjs): the forced cells as the released guide's own fill.sh prints them over the translation d4cf520a294f9ca7… (all of the seat's roots in one cut). By AI agents, Wed Nov 11 2026. No macro, syntax, notation, axiom, sorry.
-/
import Derived.Test.YtlphpajpjpohmaaDoorChecked
import GoSem.Claim
import GoSem.ClaimJoined
import GoSem.ClaimMapViews
import Derived.JoinedTies
import Derived.KernelRfl
namespace Go.Proofs.YtlphpajpjpohmaaDoor
/- THE CELL 'sum', in the pinned program and in every row, IS THE sha256 OF THE DUMP (.gsa) THAT YtlphpajpjpohmaaDoorProg.lean LOADS. Nothing in Lean hashes anything: it is a label: what it is worth is what the hold of that sum in a sandbox is worth. -/
noncomputable def Tryd.pinned : Pinned := { name := "ytlphpajpjpohmaadoor", sum := "d4cf520a294f9ca71aa931896e7cae0bb14487639f3eef4531e706576b1b5a49", checked := Tryd.checked }
namespace Rows
def none {H : Type} : Left H := { results := [], args := [] }

/- WHAT THE LISTED PACKAGE-LEVEL VARIABLES READ AS WHEN THE CALL BEGINS. Each datum BY PROGRAM (the guide's laid-datum.mjs) off the statement by which the dump's own 'gosem.cut.vars' lays the variable. In a bare row this is a premise. The card (YtlphpajpjpohmaaDoorCards.lean) ties it to the program's text. -/
def laid_loop_example_g01326_impl_errInvalid {H : Type} : DataW H := .iface "*errors.errorString" (.ptr (.agg [.lit (.string [105, 110, 118, 97, 108, 105, 100])]))
def laid_loop_example_g01326_impl_errState {H : Type} : DataW H := .iface "*errors.errorString" (.ptr (.agg [.lit (.string [115, 116, 97, 116, 101])]))
def laid_loop_example_g01326_impl_errSyntax {H : Type} : DataW H := .iface "*errors.errorString" (.ptr (.agg [.lit (.string [115, 121, 110, 116, 97, 120])]))

/-- 'laws.FnExactValidRack': WHATEVER THE INPUT: true; the input reads as it did. -/
def fnExactValidRackSpec : ChangeSpec := { name := "fnExactValidRack", vars := ["loop.example/g01326/impl.errInvalid", "loop.example/g01326/impl.errState"], fn := fun _ => fun
  | [d, g1, g2] => { results := [.lit (.bool true)], args := [d], vars := [g1, g2] }
  | _ => none }
def fnExactValidRackRow : OpenClaim := { program := "ytlphpajpjpohmaadoor", sum := "d4cf520a294f9ca71aa931896e7cae0bb14487639f3eef4531e706576b1b5a49", func := "loop.example/g01326/laws.FnExactValidRack", spec := "fnExactValidRack", unfollowed := true, recurses := true, named := ["loop.example/g01326/impl.errInvalid", "loop.example/g01326/impl.errState"], ifaces := true, apart := false, laid := [("loop.example/g01326/impl.errInvalid", laid_loop_example_g01326_impl_errInvalid), ("loop.example/g01326/impl.errState", laid_loop_example_g01326_impl_errState)] }
def FnExactValidRackSaid : Prop := fnExactValidRackRow.holds Tryd.pinned (OpenSpec.ofChange fnExactValidRackSpec)

/-- ITS FALSE NEIGHBOUR: 'it returns false'. Refute it at one input. -/
def fnExactValidRackWrong : ChangeSpec := { name := "fnExactValidRack", vars := ["loop.example/g01326/impl.errInvalid", "loop.example/g01326/impl.errState"], fn := fun _ => fun
  | [d, g1, g2] => { results := [.lit (.bool false)], args := [d], vars := [g1, g2] }
  | _ => none }
def FnExactValidRackWrongFalsely : Prop := fnExactValidRackRow.holds Tryd.pinned (OpenSpec.ofChange fnExactValidRackWrong)

/-- 'laws.FnExactBooksIn': WHATEVER THE INPUT: true; the input reads as it did. -/
def fnExactBooksInSpec : ChangeSpec := { name := "fnExactBooksIn", vars := ["loop.example/g01326/impl.errInvalid", "loop.example/g01326/impl.errState"], fn := fun _ => fun
  | [d, g1, g2] => { results := [.lit (.bool true)], args := [d], vars := [g1, g2] }
  | _ => none }
def fnExactBooksInRow : OpenClaim := { program := "ytlphpajpjpohmaadoor", sum := "d4cf520a294f9ca71aa931896e7cae0bb14487639f3eef4531e706576b1b5a49", func := "loop.example/g01326/laws.FnExactBooksIn", spec := "fnExactBooksIn", unfollowed := true, recurses := true, named := ["loop.example/g01326/impl.errInvalid", "loop.example/g01326/impl.errState"], ifaces := true, apart := false, laid := [("loop.example/g01326/impl.errInvalid", laid_loop_example_g01326_impl_errInvalid), ("loop.example/g01326/impl.errState", laid_loop_example_g01326_impl_errState)] }
def FnExactBooksInSaid : Prop := fnExactBooksInRow.holds Tryd.pinned (OpenSpec.ofChange fnExactBooksInSpec)

/-- ITS FALSE NEIGHBOUR: 'it returns false'. Refute it at one input. -/
def fnExactBooksInWrong : ChangeSpec := { name := "fnExactBooksIn", vars := ["loop.example/g01326/impl.errInvalid", "loop.example/g01326/impl.errState"], fn := fun _ => fun
  | [d, g1, g2] => { results := [.lit (.bool false)], args := [d], vars := [g1, g2] }
  | _ => none }
def FnExactBooksInWrongFalsely : Prop := fnExactBooksInRow.holds Tryd.pinned (OpenSpec.ofChange fnExactBooksInWrong)

/-- 'laws.FnExactFreePlaces': WHATEVER THE INPUT: true; the input reads as it did. -/
def fnExactFreePlacesSpec : ChangeSpec := { name := "fnExactFreePlaces", vars := ["loop.example/g01326/impl.errInvalid", "loop.example/g01326/impl.errState"], fn := fun _ => fun
  | [d, g1, g2] => { results := [.lit (.bool true)], args := [d], vars := [g1, g2] }
  | _ => none }
def fnExactFreePlacesRow : OpenClaim := { program := "ytlphpajpjpohmaadoor", sum := "d4cf520a294f9ca71aa931896e7cae0bb14487639f3eef4531e706576b1b5a49", func := "loop.example/g01326/laws.FnExactFreePlaces", spec := "fnExactFreePlaces", unfollowed := true, recurses := true, named := ["loop.example/g01326/impl.errInvalid", "loop.example/g01326/impl.errState"], ifaces := true, apart := false, laid := [("loop.example/g01326/impl.errInvalid", laid_loop_example_g01326_impl_errInvalid), ("loop.example/g01326/impl.errState", laid_loop_example_g01326_impl_errState)] }
def FnExactFreePlacesSaid : Prop := fnExactFreePlacesRow.holds Tryd.pinned (OpenSpec.ofChange fnExactFreePlacesSpec)

/-- ITS FALSE NEIGHBOUR: 'it returns false'. Refute it at one input. -/
def fnExactFreePlacesWrong : ChangeSpec := { name := "fnExactFreePlaces", vars := ["loop.example/g01326/impl.errInvalid", "loop.example/g01326/impl.errState"], fn := fun _ => fun
  | [d, g1, g2] => { results := [.lit (.bool false)], args := [d], vars := [g1, g2] }
  | _ => none }
def FnExactFreePlacesWrongFalsely : Prop := fnExactFreePlacesRow.holds Tryd.pinned (OpenSpec.ofChange fnExactFreePlacesWrong)

/-- 'laws.FnExactCrowdOf': WHATEVER THE INPUT: true; the input reads as it did. -/
def fnExactCrowdOfSpec : ChangeSpec := { name := "fnExactCrowdOf", vars := ["loop.example/g01326/impl.errInvalid", "loop.example/g01326/impl.errState"], fn := fun _ => fun
  | [d, g1, g2] => { results := [.lit (.bool true)], args := [d], vars := [g1, g2] }
  | _ => none }
def fnExactCrowdOfRow : OpenClaim := { program := "ytlphpajpjpohmaadoor", sum := "d4cf520a294f9ca71aa931896e7cae0bb14487639f3eef4531e706576b1b5a49", func := "loop.example/g01326/laws.FnExactCrowdOf", spec := "fnExactCrowdOf", unfollowed := true, recurses := true, named := ["loop.example/g01326/impl.errInvalid", "loop.example/g01326/impl.errState"], ifaces := true, apart := false, laid := [("loop.example/g01326/impl.errInvalid", laid_loop_example_g01326_impl_errInvalid), ("loop.example/g01326/impl.errState", laid_loop_example_g01326_impl_errState)] }
def FnExactCrowdOfSaid : Prop := fnExactCrowdOfRow.holds Tryd.pinned (OpenSpec.ofChange fnExactCrowdOfSpec)

/-- ITS FALSE NEIGHBOUR: 'it returns false'. Refute it at one input. -/
def fnExactCrowdOfWrong : ChangeSpec := { name := "fnExactCrowdOf", vars := ["loop.example/g01326/impl.errInvalid", "loop.example/g01326/impl.errState"], fn := fun _ => fun
  | [d, g1, g2] => { results := [.lit (.bool false)], args := [d], vars := [g1, g2] }
  | _ => none }
def FnExactCrowdOfWrongFalsely : Prop := fnExactCrowdOfRow.holds Tryd.pinned (OpenSpec.ofChange fnExactCrowdOfWrong)

/-- 'laws.FnExactWidestGap': WHATEVER THE INPUT: true; the input reads as it did. -/
def fnExactWidestGapSpec : ChangeSpec := { name := "fnExactWidestGap", vars := ["loop.example/g01326/impl.errInvalid", "loop.example/g01326/impl.errState"], fn := fun _ => fun
  | [d, g1, g2] => { results := [.lit (.bool true)], args := [d], vars := [g1, g2] }
  | _ => none }
def fnExactWidestGapRow : OpenClaim := { program := "ytlphpajpjpohmaadoor", sum := "d4cf520a294f9ca71aa931896e7cae0bb14487639f3eef4531e706576b1b5a49", func := "loop.example/g01326/laws.FnExactWidestGap", spec := "fnExactWidestGap", unfollowed := true, recurses := true, named := ["loop.example/g01326/impl.errInvalid", "loop.example/g01326/impl.errState"], ifaces := true, apart := false, laid := [("loop.example/g01326/impl.errInvalid", laid_loop_example_g01326_impl_errInvalid), ("loop.example/g01326/impl.errState", laid_loop_example_g01326_impl_errState)] }
def FnExactWidestGapSaid : Prop := fnExactWidestGapRow.holds Tryd.pinned (OpenSpec.ofChange fnExactWidestGapSpec)

/-- ITS FALSE NEIGHBOUR: 'it returns false'. Refute it at one input. -/
def fnExactWidestGapWrong : ChangeSpec := { name := "fnExactWidestGap", vars := ["loop.example/g01326/impl.errInvalid", "loop.example/g01326/impl.errState"], fn := fun _ => fun
  | [d, g1, g2] => { results := [.lit (.bool false)], args := [d], vars := [g1, g2] }
  | _ => none }
def FnExactWidestGapWrongFalsely : Prop := fnExactWidestGapRow.holds Tryd.pinned (OpenSpec.ofChange fnExactWidestGapWrong)

/-- 'laws.FnExactRoomFor': WHATEVER THE INPUT: true; the input reads as it did. -/
def fnExactRoomForSpec : ChangeSpec := { name := "fnExactRoomFor", vars := ["loop.example/g01326/impl.errInvalid", "loop.example/g01326/impl.errState"], fn := fun _ => fun
  | [d1, d2, g1, g2] => { results := [.lit (.bool true)], args := [d1, d2], vars := [g1, g2] }
  | _ => none }
def fnExactRoomForRow : OpenClaim := { program := "ytlphpajpjpohmaadoor", sum := "d4cf520a294f9ca71aa931896e7cae0bb14487639f3eef4531e706576b1b5a49", func := "loop.example/g01326/laws.FnExactRoomFor", spec := "fnExactRoomFor", unfollowed := true, recurses := true, named := ["loop.example/g01326/impl.errInvalid", "loop.example/g01326/impl.errState"], ifaces := true, apart := false, laid := [("loop.example/g01326/impl.errInvalid", laid_loop_example_g01326_impl_errInvalid), ("loop.example/g01326/impl.errState", laid_loop_example_g01326_impl_errState)] }
def FnExactRoomForSaid : Prop := fnExactRoomForRow.holds Tryd.pinned (OpenSpec.ofChange fnExactRoomForSpec)

/-- ITS FALSE NEIGHBOUR: 'it returns false'. Refute it at one input. -/
def fnExactRoomForWrong : ChangeSpec := { name := "fnExactRoomFor", vars := ["loop.example/g01326/impl.errInvalid", "loop.example/g01326/impl.errState"], fn := fun _ => fun
  | [d1, d2, g1, g2] => { results := [.lit (.bool false)], args := [d1, d2], vars := [g1, g2] }
  | _ => none }
def FnExactRoomForWrongFalsely : Prop := fnExactRoomForRow.holds Tryd.pinned (OpenSpec.ofChange fnExactRoomForWrong)

/-- 'laws.FnExactTakeBook': WHATEVER THE INPUT: true; the input reads as it did. -/
def fnExactTakeBookSpec : ChangeSpec := { name := "fnExactTakeBook", vars := ["loop.example/g01326/impl.errInvalid", "loop.example/g01326/impl.errState"], fn := fun _ => fun
  | [d1, d2, g1, g2] => { results := [.lit (.bool true)], args := [d1, d2], vars := [g1, g2] }
  | _ => none }
def fnExactTakeBookRow : OpenClaim := { program := "ytlphpajpjpohmaadoor", sum := "d4cf520a294f9ca71aa931896e7cae0bb14487639f3eef4531e706576b1b5a49", func := "loop.example/g01326/laws.FnExactTakeBook", spec := "fnExactTakeBook", unfollowed := true, recurses := true, named := ["loop.example/g01326/impl.errInvalid", "loop.example/g01326/impl.errState"], ifaces := true, apart := false, laid := [("loop.example/g01326/impl.errInvalid", laid_loop_example_g01326_impl_errInvalid), ("loop.example/g01326/impl.errState", laid_loop_example_g01326_impl_errState)] }
def FnExactTakeBookSaid : Prop := fnExactTakeBookRow.holds Tryd.pinned (OpenSpec.ofChange fnExactTakeBookSpec)

/-- ITS FALSE NEIGHBOUR: 'it returns false'. Refute it at one input. -/
def fnExactTakeBookWrong : ChangeSpec := { name := "fnExactTakeBook", vars := ["loop.example/g01326/impl.errInvalid", "loop.example/g01326/impl.errState"], fn := fun _ => fun
  | [d1, d2, g1, g2] => { results := [.lit (.bool false)], args := [d1, d2], vars := [g1, g2] }
  | _ => none }
def FnExactTakeBookWrongFalsely : Prop := fnExactTakeBookRow.holds Tryd.pinned (OpenSpec.ofChange fnExactTakeBookWrong)

/-- 'laws.FnExactSplitRack': WHATEVER THE INPUT: true; the input reads as it did. -/
def fnExactSplitRackSpec : ChangeSpec := { name := "fnExactSplitRack", vars := ["loop.example/g01326/impl.errInvalid", "loop.example/g01326/impl.errState"], fn := fun _ => fun
  | [d1, d2, g1, g2] => { results := [.lit (.bool true)], args := [d1, d2], vars := [g1, g2] }
  | _ => none }
def fnExactSplitRackRow : OpenClaim := { program := "ytlphpajpjpohmaadoor", sum := "d4cf520a294f9ca71aa931896e7cae0bb14487639f3eef4531e706576b1b5a49", func := "loop.example/g01326/laws.FnExactSplitRack", spec := "fnExactSplitRack", unfollowed := true, recurses := true, named := ["loop.example/g01326/impl.errInvalid", "loop.example/g01326/impl.errState"], ifaces := true, apart := false, laid := [("loop.example/g01326/impl.errInvalid", laid_loop_example_g01326_impl_errInvalid), ("loop.example/g01326/impl.errState", laid_loop_example_g01326_impl_errState)] }
def FnExactSplitRackSaid : Prop := fnExactSplitRackRow.holds Tryd.pinned (OpenSpec.ofChange fnExactSplitRackSpec)

/-- ITS FALSE NEIGHBOUR: 'it returns false'. Refute it at one input. -/
def fnExactSplitRackWrong : ChangeSpec := { name := "fnExactSplitRack", vars := ["loop.example/g01326/impl.errInvalid", "loop.example/g01326/impl.errState"], fn := fun _ => fun
  | [d1, d2, g1, g2] => { results := [.lit (.bool false)], args := [d1, d2], vars := [g1, g2] }
  | _ => none }
def FnExactSplitRackWrongFalsely : Prop := fnExactSplitRackRow.holds Tryd.pinned (OpenSpec.ofChange fnExactSplitRackWrong)

/-- 'laws.FnExactFillRack': WHATEVER THE INPUT: true; the input reads as it did. -/
def fnExactFillRackSpec : ChangeSpec := { name := "fnExactFillRack", vars := ["loop.example/g01326/impl.errInvalid", "loop.example/g01326/impl.errState", "loop.example/g01326/impl.errSyntax"], fn := fun _ => fun
  | [d1, d2, g1, g2, g3] => { results := [.lit (.bool true)], args := [d1, d2], vars := [g1, g2, g3] }
  | _ => none }
def fnExactFillRackRow : OpenClaim := { program := "ytlphpajpjpohmaadoor", sum := "d4cf520a294f9ca71aa931896e7cae0bb14487639f3eef4531e706576b1b5a49", func := "loop.example/g01326/laws.FnExactFillRack", spec := "fnExactFillRack", inPlace := ["internal/reflectlite.TypeOf"], unfollowed := true, recurses := true, named := ["loop.example/g01326/impl.errInvalid", "loop.example/g01326/impl.errState", "loop.example/g01326/impl.errSyntax"], ifaces := true, apart := false, laid := [("loop.example/g01326/impl.errInvalid", laid_loop_example_g01326_impl_errInvalid), ("loop.example/g01326/impl.errState", laid_loop_example_g01326_impl_errState), ("loop.example/g01326/impl.errSyntax", laid_loop_example_g01326_impl_errSyntax)] }
def FnExactFillRackSaid : Prop := fnExactFillRackRow.holds Tryd.pinned (OpenSpec.ofChange fnExactFillRackSpec)

/-- ITS FALSE NEIGHBOUR: 'it returns false'. Refute it at one input. -/
def fnExactFillRackWrong : ChangeSpec := { name := "fnExactFillRack", vars := ["loop.example/g01326/impl.errInvalid", "loop.example/g01326/impl.errState", "loop.example/g01326/impl.errSyntax"], fn := fun _ => fun
  | [d1, d2, g1, g2, g3] => { results := [.lit (.bool false)], args := [d1, d2], vars := [g1, g2, g3] }
  | _ => none }
def FnExactFillRackWrongFalsely : Prop := fnExactFillRackRow.holds Tryd.pinned (OpenSpec.ofChange fnExactFillRackWrong)

/-- 'laws.FnExactEmptyRack': WHATEVER THE INPUT: true; the input reads as it did. -/
def fnExactEmptyRackSpec : ChangeSpec := { name := "fnExactEmptyRack", vars := ["loop.example/g01326/impl.errInvalid", "loop.example/g01326/impl.errState", "loop.example/g01326/impl.errSyntax"], fn := fun _ => fun
  | [d, g1, g2, g3] => { results := [.lit (.bool true)], args := [d], vars := [g1, g2, g3] }
  | _ => none }
def fnExactEmptyRackRow : OpenClaim := { program := "ytlphpajpjpohmaadoor", sum := "d4cf520a294f9ca71aa931896e7cae0bb14487639f3eef4531e706576b1b5a49", func := "loop.example/g01326/laws.FnExactEmptyRack", spec := "fnExactEmptyRack", inPlace := ["internal/reflectlite.TypeOf"], unfollowed := true, recurses := true, named := ["loop.example/g01326/impl.errInvalid", "loop.example/g01326/impl.errState", "loop.example/g01326/impl.errSyntax"], ifaces := true, apart := false, laid := [("loop.example/g01326/impl.errInvalid", laid_loop_example_g01326_impl_errInvalid), ("loop.example/g01326/impl.errState", laid_loop_example_g01326_impl_errState), ("loop.example/g01326/impl.errSyntax", laid_loop_example_g01326_impl_errSyntax)] }
def FnExactEmptyRackSaid : Prop := fnExactEmptyRackRow.holds Tryd.pinned (OpenSpec.ofChange fnExactEmptyRackSpec)

/-- ITS FALSE NEIGHBOUR: 'it returns false'. Refute it at one input. -/
def fnExactEmptyRackWrong : ChangeSpec := { name := "fnExactEmptyRack", vars := ["loop.example/g01326/impl.errInvalid", "loop.example/g01326/impl.errState", "loop.example/g01326/impl.errSyntax"], fn := fun _ => fun
  | [d, g1, g2, g3] => { results := [.lit (.bool false)], args := [d], vars := [g1, g2, g3] }
  | _ => none }
def FnExactEmptyRackWrongFalsely : Prop := fnExactEmptyRackRow.holds Tryd.pinned (OpenSpec.ofChange fnExactEmptyRackWrong)

/-- 'laws.FnExactSpreadRack': WHATEVER THE INPUT: true; the input reads as it did. -/
def fnExactSpreadRackSpec : ChangeSpec := { name := "fnExactSpreadRack", vars := ["loop.example/g01326/impl.errInvalid", "loop.example/g01326/impl.errState"], fn := fun _ => fun
  | [d, g1, g2] => { results := [.lit (.bool true)], args := [d], vars := [g1, g2] }
  | _ => none }
def fnExactSpreadRackRow : OpenClaim := { program := "ytlphpajpjpohmaadoor", sum := "d4cf520a294f9ca71aa931896e7cae0bb14487639f3eef4531e706576b1b5a49", func := "loop.example/g01326/laws.FnExactSpreadRack", spec := "fnExactSpreadRack", unfollowed := true, recurses := true, named := ["loop.example/g01326/impl.errInvalid", "loop.example/g01326/impl.errState"], ifaces := true, apart := false, laid := [("loop.example/g01326/impl.errInvalid", laid_loop_example_g01326_impl_errInvalid), ("loop.example/g01326/impl.errState", laid_loop_example_g01326_impl_errState)] }
def FnExactSpreadRackSaid : Prop := fnExactSpreadRackRow.holds Tryd.pinned (OpenSpec.ofChange fnExactSpreadRackSpec)

/-- ITS FALSE NEIGHBOUR: 'it returns false'. Refute it at one input. -/
def fnExactSpreadRackWrong : ChangeSpec := { name := "fnExactSpreadRack", vars := ["loop.example/g01326/impl.errInvalid", "loop.example/g01326/impl.errState"], fn := fun _ => fun
  | [d, g1, g2] => { results := [.lit (.bool false)], args := [d], vars := [g1, g2] }
  | _ => none }
def FnExactSpreadRackWrongFalsely : Prop := fnExactSpreadRackRow.holds Tryd.pinned (OpenSpec.ofChange fnExactSpreadRackWrong)

/-- 'laws.FnExactMoveApart': WHATEVER THE INPUT: true; the input reads as it did. -/
def fnExactMoveApartSpec : ChangeSpec := { name := "fnExactMoveApart", vars := ["loop.example/g01326/impl.errInvalid", "loop.example/g01326/impl.errState"], fn := fun _ => fun
  | [d1, d2, g1, g2] => { results := [.lit (.bool true)], args := [d1, d2], vars := [g1, g2] }
  | _ => none }
def fnExactMoveApartRow : OpenClaim := { program := "ytlphpajpjpohmaadoor", sum := "d4cf520a294f9ca71aa931896e7cae0bb14487639f3eef4531e706576b1b5a49", func := "loop.example/g01326/laws.FnExactMoveApart", spec := "fnExactMoveApart", unfollowed := true, recurses := true, named := ["loop.example/g01326/impl.errInvalid", "loop.example/g01326/impl.errState"], ifaces := true, apart := false, laid := [("loop.example/g01326/impl.errInvalid", laid_loop_example_g01326_impl_errInvalid), ("loop.example/g01326/impl.errState", laid_loop_example_g01326_impl_errState)] }
def FnExactMoveApartSaid : Prop := fnExactMoveApartRow.holds Tryd.pinned (OpenSpec.ofChange fnExactMoveApartSpec)

/-- ITS FALSE NEIGHBOUR: 'it returns false'. Refute it at one input. -/
def fnExactMoveApartWrong : ChangeSpec := { name := "fnExactMoveApart", vars := ["loop.example/g01326/impl.errInvalid", "loop.example/g01326/impl.errState"], fn := fun _ => fun
  | [d1, d2, g1, g2] => { results := [.lit (.bool false)], args := [d1, d2], vars := [g1, g2] }
  | _ => none }
def FnExactMoveApartWrongFalsely : Prop := fnExactMoveApartRow.holds Tryd.pinned (OpenSpec.ofChange fnExactMoveApartWrong)

/- THE SECOND FORM. 'bulk': how many values and letters a reading holds, each counted each time it is reached (what is shared counts as often as it is met; a slice's spare places count too). A statement '..UptoSaid' is the law's where the arguments, and the package variables that the reading takes, are together of bulk at most 1048576: NARROWER than '..Said'. Prove '..Said' where nothing that the law and all that it calls make is longer than what came in: it says more and counts as full. Else prove '..UptoSaid'. A law counts once. -/
mutual
def uptoBulk {H : Type} : DataW H → Nat
  | .lit (.string bytes) => bytes.length + 1
  | .lit _ => 1
  | .nil => 1
  | .ptr d => uptoBulk d + 1
  | .slice elems spare => uptoBulkAll elems + uptoBulkAll spare + 1
  | .agg parts => uptoBulkAll parts + 1
  | .iface _ d => uptoBulk d + 1
  | .map entries => uptoBulkEntries entries + 1
  | .held _ => 1
def uptoBulkAll {H : Type} : List (DataW H) → Nat
  | [] => 0
  | d :: r => uptoBulk d + uptoBulkAll r
def uptoBulkEntries {H : Type} : List (Lit × DataW H) → Nat
  | [] => 0
  | x :: r => uptoBulkEntry x + uptoBulkEntries r
def uptoBulkEntry {H : Type} : Lit × DataW H → Nat
  | (.string bytes, d) => bytes.length + uptoBulk d + 1
  | (_, d) => uptoBulk d + 1
 end
def uptoSmall : (H : Type) → List (DataW H) → Bool := fun _ ds => decide (uptoBulkAll ds ≤ 1048576)
def OpenSpec.upto (s : _root_.Go.ChangeSpec) : _root_.Go.OpenSpec := { _root_.Go.OpenSpec.ofChange s with cond := some uptoSmall }

/-- 'laws.FnExactValidRack', WHERE WHAT IT READS IS OF BULK AT MOST 1048576: true; the input reads as it did. -/
def fnExactValidRackUptoRow : OpenClaim := { program := "ytlphpajpjpohmaadoor", sum := "d4cf520a294f9ca71aa931896e7cae0bb14487639f3eef4531e706576b1b5a49", func := "loop.example/g01326/laws.FnExactValidRack", spec := "fnExactValidRack", unfollowed := true, recurses := true, named := ["loop.example/g01326/impl.errInvalid", "loop.example/g01326/impl.errState"], ifaces := true, apart := false, laid := [("loop.example/g01326/impl.errInvalid", laid_loop_example_g01326_impl_errInvalid), ("loop.example/g01326/impl.errState", laid_loop_example_g01326_impl_errState)], narrowed := true }
def FnExactValidRackUptoSaid : Prop := fnExactValidRackUptoRow.holds Tryd.pinned (OpenSpec.upto fnExactValidRackSpec)

/-- 'laws.FnExactBooksIn', WHERE WHAT IT READS IS OF BULK AT MOST 1048576: true; the input reads as it did. -/
def fnExactBooksInUptoRow : OpenClaim := { program := "ytlphpajpjpohmaadoor", sum := "d4cf520a294f9ca71aa931896e7cae0bb14487639f3eef4531e706576b1b5a49", func := "loop.example/g01326/laws.FnExactBooksIn", spec := "fnExactBooksIn", unfollowed := true, recurses := true, named := ["loop.example/g01326/impl.errInvalid", "loop.example/g01326/impl.errState"], ifaces := true, apart := false, laid := [("loop.example/g01326/impl.errInvalid", laid_loop_example_g01326_impl_errInvalid), ("loop.example/g01326/impl.errState", laid_loop_example_g01326_impl_errState)], narrowed := true }
def FnExactBooksInUptoSaid : Prop := fnExactBooksInUptoRow.holds Tryd.pinned (OpenSpec.upto fnExactBooksInSpec)

/-- 'laws.FnExactFreePlaces', WHERE WHAT IT READS IS OF BULK AT MOST 1048576: true; the input reads as it did. -/
def fnExactFreePlacesUptoRow : OpenClaim := { program := "ytlphpajpjpohmaadoor", sum := "d4cf520a294f9ca71aa931896e7cae0bb14487639f3eef4531e706576b1b5a49", func := "loop.example/g01326/laws.FnExactFreePlaces", spec := "fnExactFreePlaces", unfollowed := true, recurses := true, named := ["loop.example/g01326/impl.errInvalid", "loop.example/g01326/impl.errState"], ifaces := true, apart := false, laid := [("loop.example/g01326/impl.errInvalid", laid_loop_example_g01326_impl_errInvalid), ("loop.example/g01326/impl.errState", laid_loop_example_g01326_impl_errState)], narrowed := true }
def FnExactFreePlacesUptoSaid : Prop := fnExactFreePlacesUptoRow.holds Tryd.pinned (OpenSpec.upto fnExactFreePlacesSpec)

/-- 'laws.FnExactCrowdOf', WHERE WHAT IT READS IS OF BULK AT MOST 1048576: true; the input reads as it did. -/
def fnExactCrowdOfUptoRow : OpenClaim := { program := "ytlphpajpjpohmaadoor", sum := "d4cf520a294f9ca71aa931896e7cae0bb14487639f3eef4531e706576b1b5a49", func := "loop.example/g01326/laws.FnExactCrowdOf", spec := "fnExactCrowdOf", unfollowed := true, recurses := true, named := ["loop.example/g01326/impl.errInvalid", "loop.example/g01326/impl.errState"], ifaces := true, apart := false, laid := [("loop.example/g01326/impl.errInvalid", laid_loop_example_g01326_impl_errInvalid), ("loop.example/g01326/impl.errState", laid_loop_example_g01326_impl_errState)], narrowed := true }
def FnExactCrowdOfUptoSaid : Prop := fnExactCrowdOfUptoRow.holds Tryd.pinned (OpenSpec.upto fnExactCrowdOfSpec)

/-- 'laws.FnExactWidestGap', WHERE WHAT IT READS IS OF BULK AT MOST 1048576: true; the input reads as it did. -/
def fnExactWidestGapUptoRow : OpenClaim := { program := "ytlphpajpjpohmaadoor", sum := "d4cf520a294f9ca71aa931896e7cae0bb14487639f3eef4531e706576b1b5a49", func := "loop.example/g01326/laws.FnExactWidestGap", spec := "fnExactWidestGap", unfollowed := true, recurses := true, named := ["loop.example/g01326/impl.errInvalid", "loop.example/g01326/impl.errState"], ifaces := true, apart := false, laid := [("loop.example/g01326/impl.errInvalid", laid_loop_example_g01326_impl_errInvalid), ("loop.example/g01326/impl.errState", laid_loop_example_g01326_impl_errState)], narrowed := true }
def FnExactWidestGapUptoSaid : Prop := fnExactWidestGapUptoRow.holds Tryd.pinned (OpenSpec.upto fnExactWidestGapSpec)

/-- 'laws.FnExactRoomFor', WHERE WHAT IT READS IS OF BULK AT MOST 1048576: true; the input reads as it did. -/
def fnExactRoomForUptoRow : OpenClaim := { program := "ytlphpajpjpohmaadoor", sum := "d4cf520a294f9ca71aa931896e7cae0bb14487639f3eef4531e706576b1b5a49", func := "loop.example/g01326/laws.FnExactRoomFor", spec := "fnExactRoomFor", unfollowed := true, recurses := true, named := ["loop.example/g01326/impl.errInvalid", "loop.example/g01326/impl.errState"], ifaces := true, apart := false, laid := [("loop.example/g01326/impl.errInvalid", laid_loop_example_g01326_impl_errInvalid), ("loop.example/g01326/impl.errState", laid_loop_example_g01326_impl_errState)], narrowed := true }
def FnExactRoomForUptoSaid : Prop := fnExactRoomForUptoRow.holds Tryd.pinned (OpenSpec.upto fnExactRoomForSpec)

/-- 'laws.FnExactTakeBook', WHERE WHAT IT READS IS OF BULK AT MOST 1048576: true; the input reads as it did. -/
def fnExactTakeBookUptoRow : OpenClaim := { program := "ytlphpajpjpohmaadoor", sum := "d4cf520a294f9ca71aa931896e7cae0bb14487639f3eef4531e706576b1b5a49", func := "loop.example/g01326/laws.FnExactTakeBook", spec := "fnExactTakeBook", unfollowed := true, recurses := true, named := ["loop.example/g01326/impl.errInvalid", "loop.example/g01326/impl.errState"], ifaces := true, apart := false, laid := [("loop.example/g01326/impl.errInvalid", laid_loop_example_g01326_impl_errInvalid), ("loop.example/g01326/impl.errState", laid_loop_example_g01326_impl_errState)], narrowed := true }
def FnExactTakeBookUptoSaid : Prop := fnExactTakeBookUptoRow.holds Tryd.pinned (OpenSpec.upto fnExactTakeBookSpec)

/-- 'laws.FnExactSplitRack', WHERE WHAT IT READS IS OF BULK AT MOST 1048576: true; the input reads as it did. -/
def fnExactSplitRackUptoRow : OpenClaim := { program := "ytlphpajpjpohmaadoor", sum := "d4cf520a294f9ca71aa931896e7cae0bb14487639f3eef4531e706576b1b5a49", func := "loop.example/g01326/laws.FnExactSplitRack", spec := "fnExactSplitRack", unfollowed := true, recurses := true, named := ["loop.example/g01326/impl.errInvalid", "loop.example/g01326/impl.errState"], ifaces := true, apart := false, laid := [("loop.example/g01326/impl.errInvalid", laid_loop_example_g01326_impl_errInvalid), ("loop.example/g01326/impl.errState", laid_loop_example_g01326_impl_errState)], narrowed := true }
def FnExactSplitRackUptoSaid : Prop := fnExactSplitRackUptoRow.holds Tryd.pinned (OpenSpec.upto fnExactSplitRackSpec)

/-- 'laws.FnExactFillRack', WHERE WHAT IT READS IS OF BULK AT MOST 1048576: true; the input reads as it did. -/
def fnExactFillRackUptoRow : OpenClaim := { program := "ytlphpajpjpohmaadoor", sum := "d4cf520a294f9ca71aa931896e7cae0bb14487639f3eef4531e706576b1b5a49", func := "loop.example/g01326/laws.FnExactFillRack", spec := "fnExactFillRack", inPlace := ["internal/reflectlite.TypeOf"], unfollowed := true, recurses := true, named := ["loop.example/g01326/impl.errInvalid", "loop.example/g01326/impl.errState", "loop.example/g01326/impl.errSyntax"], ifaces := true, apart := false, laid := [("loop.example/g01326/impl.errInvalid", laid_loop_example_g01326_impl_errInvalid), ("loop.example/g01326/impl.errState", laid_loop_example_g01326_impl_errState), ("loop.example/g01326/impl.errSyntax", laid_loop_example_g01326_impl_errSyntax)], narrowed := true }
def FnExactFillRackUptoSaid : Prop := fnExactFillRackUptoRow.holds Tryd.pinned (OpenSpec.upto fnExactFillRackSpec)

/-- 'laws.FnExactEmptyRack', WHERE WHAT IT READS IS OF BULK AT MOST 1048576: true; the input reads as it did. -/
def fnExactEmptyRackUptoRow : OpenClaim := { program := "ytlphpajpjpohmaadoor", sum := "d4cf520a294f9ca71aa931896e7cae0bb14487639f3eef4531e706576b1b5a49", func := "loop.example/g01326/laws.FnExactEmptyRack", spec := "fnExactEmptyRack", inPlace := ["internal/reflectlite.TypeOf"], unfollowed := true, recurses := true, named := ["loop.example/g01326/impl.errInvalid", "loop.example/g01326/impl.errState", "loop.example/g01326/impl.errSyntax"], ifaces := true, apart := false, laid := [("loop.example/g01326/impl.errInvalid", laid_loop_example_g01326_impl_errInvalid), ("loop.example/g01326/impl.errState", laid_loop_example_g01326_impl_errState), ("loop.example/g01326/impl.errSyntax", laid_loop_example_g01326_impl_errSyntax)], narrowed := true }
def FnExactEmptyRackUptoSaid : Prop := fnExactEmptyRackUptoRow.holds Tryd.pinned (OpenSpec.upto fnExactEmptyRackSpec)

/-- 'laws.FnExactSpreadRack', WHERE WHAT IT READS IS OF BULK AT MOST 1048576: true; the input reads as it did. -/
def fnExactSpreadRackUptoRow : OpenClaim := { program := "ytlphpajpjpohmaadoor", sum := "d4cf520a294f9ca71aa931896e7cae0bb14487639f3eef4531e706576b1b5a49", func := "loop.example/g01326/laws.FnExactSpreadRack", spec := "fnExactSpreadRack", unfollowed := true, recurses := true, named := ["loop.example/g01326/impl.errInvalid", "loop.example/g01326/impl.errState"], ifaces := true, apart := false, laid := [("loop.example/g01326/impl.errInvalid", laid_loop_example_g01326_impl_errInvalid), ("loop.example/g01326/impl.errState", laid_loop_example_g01326_impl_errState)], narrowed := true }
def FnExactSpreadRackUptoSaid : Prop := fnExactSpreadRackUptoRow.holds Tryd.pinned (OpenSpec.upto fnExactSpreadRackSpec)

/-- 'laws.FnExactMoveApart', WHERE WHAT IT READS IS OF BULK AT MOST 1048576: true; the input reads as it did. -/
def fnExactMoveApartUptoRow : OpenClaim := { program := "ytlphpajpjpohmaadoor", sum := "d4cf520a294f9ca71aa931896e7cae0bb14487639f3eef4531e706576b1b5a49", func := "loop.example/g01326/laws.FnExactMoveApart", spec := "fnExactMoveApart", unfollowed := true, recurses := true, named := ["loop.example/g01326/impl.errInvalid", "loop.example/g01326/impl.errState"], ifaces := true, apart := false, laid := [("loop.example/g01326/impl.errInvalid", laid_loop_example_g01326_impl_errInvalid), ("loop.example/g01326/impl.errState", laid_loop_example_g01326_impl_errState)], narrowed := true }
def FnExactMoveApartUptoSaid : Prop := fnExactMoveApartUptoRow.holds Tryd.pinned (OpenSpec.upto fnExactMoveApartSpec)

end Rows
end Go.Proofs.YtlphpajpjpohmaaDoor
