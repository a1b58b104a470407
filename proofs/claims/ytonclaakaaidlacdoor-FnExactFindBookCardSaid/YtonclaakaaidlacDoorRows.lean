/-
  NARROWER THAN 'FOR EVERY INPUT', by the rows' own cells (each row's printed sentence says how): FnExactIsSorted: ifaces, laid · FnExactPlaceFor: ifaces, laid · FnExactFindBook: ifaces, laid · FnExactClassRange: ifaces, laid · FnExactMergeBooks: ifaces, laid.
  DERIVED. THE GIVEN ROWS OF THIS SEAT. 5 by the template 'for every input the law returns true; each argument reads behind the call as it read before'; 0 by the template 'total and deterministic' (their statements: YtonclaakaaidlacDoorTotals.lean).
  GIVEN WITH THE SEED: the statements are not yours to turn. If you find one false, say at which input.
  Laid BY PROGRAM, IN A SANDBOX (cutbox-rows.mjs): the forced cells as the released guide's own fill.sh prints them over the translation aafb6ef9e4a85d45… (all of the seat's roots in one cut). By AI agents, Wed Nov 11 2026. No macro, syntax, notation, axiom, sorry.
-/
import Derived.Test.YtonclaakaaidlacDoorChecked
import GoSem.Claim
import GoSem.ClaimJoined
import GoSem.ClaimMapViews
import Derived.JoinedTies
import Derived.KernelRfl
namespace Go.Proofs.YtonclaakaaidlacDoor
/- THE CELL 'sum', in the pinned program and in every row, IS THE sha256 OF THE DUMP (.gsa) THAT YtonclaakaaidlacDoorProg.lean LOADS. Nothing in Lean hashes anything: it is a label: what it is worth is what the hold of that sum in a sandbox is worth. -/
noncomputable def Tryd.pinned : Pinned := { name := "ytonclaakaaidlacdoor", sum := "aafb6ef9e4a85d456aa8b1ceaa7694d5e7f7d68e7c137db6c8eade8e35c0e199", checked := Tryd.checked }
namespace Rows
def none {H : Type} : Left H := { results := [], args := [] }

/- WHAT THE LISTED PACKAGE-LEVEL VARIABLES READ AS WHEN THE CALL BEGINS. Each datum BY PROGRAM (the guide's laid-datum.mjs) off the statement by which the dump's own 'gosem.cut.vars' lays the variable. In a bare row this is a premise. The card (YtonclaakaaidlacDoorCards.lean) ties it to the program's text. -/
def laid_loop_example_g01326_impl_errInvalid {H : Type} : DataW H := .iface "*errors.errorString" (.ptr (.agg [.lit (.string [105, 110, 118, 97, 108, 105, 100])]))
def laid_loop_example_g01326_impl_errState {H : Type} : DataW H := .iface "*errors.errorString" (.ptr (.agg [.lit (.string [115, 116, 97, 116, 101])]))
def laid_loop_example_g01326_impl_errSyntax {H : Type} : DataW H := .iface "*errors.errorString" (.ptr (.agg [.lit (.string [115, 121, 110, 116, 97, 120])]))

/-- 'laws.FnExactIsSorted': WHATEVER THE INPUT: true; the input reads as it did. -/
def fnExactIsSortedSpec : ChangeSpec := { name := "fnExactIsSorted", vars := ["loop.example/g01326/impl.errState", "loop.example/g01326/impl.errInvalid", "loop.example/g01326/impl.errSyntax"], fn := fun _ => fun
  | [d, g1, g2, g3] => { results := [.lit (.bool true)], args := [d], vars := [g1, g2, g3] }
  | _ => none }
def fnExactIsSortedRow : OpenClaim := { program := "ytonclaakaaidlacdoor", sum := "aafb6ef9e4a85d456aa8b1ceaa7694d5e7f7d68e7c137db6c8eade8e35c0e199", func := "loop.example/g01326/laws.FnExactIsSorted", spec := "fnExactIsSorted", inPlace := ["internal/reflectlite.TypeOf"], unfollowed := true, recurses := true, named := ["loop.example/g01326/impl.errState", "loop.example/g01326/impl.errInvalid", "loop.example/g01326/impl.errSyntax"], ifaces := true, apart := false, laid := [("loop.example/g01326/impl.errInvalid", laid_loop_example_g01326_impl_errInvalid), ("loop.example/g01326/impl.errState", laid_loop_example_g01326_impl_errState), ("loop.example/g01326/impl.errSyntax", laid_loop_example_g01326_impl_errSyntax)] }
def FnExactIsSortedSaid : Prop := fnExactIsSortedRow.holds Tryd.pinned (OpenSpec.ofChange fnExactIsSortedSpec)

/-- ITS FALSE NEIGHBOUR: 'it returns false'. Refute it at one input. -/
def fnExactIsSortedWrong : ChangeSpec := { name := "fnExactIsSorted", vars := ["loop.example/g01326/impl.errState", "loop.example/g01326/impl.errInvalid", "loop.example/g01326/impl.errSyntax"], fn := fun _ => fun
  | [d, g1, g2, g3] => { results := [.lit (.bool false)], args := [d], vars := [g1, g2, g3] }
  | _ => none }
def FnExactIsSortedWrongFalsely : Prop := fnExactIsSortedRow.holds Tryd.pinned (OpenSpec.ofChange fnExactIsSortedWrong)

/-- 'laws.FnExactPlaceFor': WHATEVER THE INPUT: true; the input reads as it did. -/
def fnExactPlaceForSpec : ChangeSpec := { name := "fnExactPlaceFor", vars := ["loop.example/g01326/impl.errInvalid", "loop.example/g01326/impl.errState", "loop.example/g01326/impl.errSyntax"], fn := fun _ => fun
  | [d1, d2, g1, g2, g3] => { results := [.lit (.bool true)], args := [d1, d2], vars := [g1, g2, g3] }
  | _ => none }
def fnExactPlaceForRow : OpenClaim := { program := "ytonclaakaaidlacdoor", sum := "aafb6ef9e4a85d456aa8b1ceaa7694d5e7f7d68e7c137db6c8eade8e35c0e199", func := "loop.example/g01326/laws.FnExactPlaceFor", spec := "fnExactPlaceFor", inPlace := ["internal/reflectlite.TypeOf"], unfollowed := true, recurses := true, named := ["loop.example/g01326/impl.errInvalid", "loop.example/g01326/impl.errState", "loop.example/g01326/impl.errSyntax"], ifaces := true, apart := false, laid := [("loop.example/g01326/impl.errInvalid", laid_loop_example_g01326_impl_errInvalid), ("loop.example/g01326/impl.errState", laid_loop_example_g01326_impl_errState), ("loop.example/g01326/impl.errSyntax", laid_loop_example_g01326_impl_errSyntax)] }
def FnExactPlaceForSaid : Prop := fnExactPlaceForRow.holds Tryd.pinned (OpenSpec.ofChange fnExactPlaceForSpec)

/-- ITS FALSE NEIGHBOUR: 'it returns false'. Refute it at one input. -/
def fnExactPlaceForWrong : ChangeSpec := { name := "fnExactPlaceFor", vars := ["loop.example/g01326/impl.errInvalid", "loop.example/g01326/impl.errState", "loop.example/g01326/impl.errSyntax"], fn := fun _ => fun
  | [d1, d2, g1, g2, g3] => { results := [.lit (.bool false)], args := [d1, d2], vars := [g1, g2, g3] }
  | _ => none }
def FnExactPlaceForWrongFalsely : Prop := fnExactPlaceForRow.holds Tryd.pinned (OpenSpec.ofChange fnExactPlaceForWrong)

/-- 'laws.FnExactFindBook': WHATEVER THE INPUT: true; the input reads as it did. -/
def fnExactFindBookSpec : ChangeSpec := { name := "fnExactFindBook", vars := ["loop.example/g01326/impl.errInvalid", "loop.example/g01326/impl.errState", "loop.example/g01326/impl.errSyntax"], fn := fun _ => fun
  | [d1, d2, d3, d4, g1, g2, g3] => { results := [.lit (.bool true)], args := [d1, d2, d3, d4], vars := [g1, g2, g3] }
  | _ => none }
def fnExactFindBookRow : OpenClaim := { program := "ytonclaakaaidlacdoor", sum := "aafb6ef9e4a85d456aa8b1ceaa7694d5e7f7d68e7c137db6c8eade8e35c0e199", func := "loop.example/g01326/laws.FnExactFindBook", spec := "fnExactFindBook", inPlace := ["internal/reflectlite.TypeOf"], unfollowed := true, recurses := true, named := ["loop.example/g01326/impl.errInvalid", "loop.example/g01326/impl.errState", "loop.example/g01326/impl.errSyntax"], ifaces := true, apart := false, laid := [("loop.example/g01326/impl.errInvalid", laid_loop_example_g01326_impl_errInvalid), ("loop.example/g01326/impl.errState", laid_loop_example_g01326_impl_errState), ("loop.example/g01326/impl.errSyntax", laid_loop_example_g01326_impl_errSyntax)] }
def FnExactFindBookSaid : Prop := fnExactFindBookRow.holds Tryd.pinned (OpenSpec.ofChange fnExactFindBookSpec)

/-- ITS FALSE NEIGHBOUR: 'it returns false'. Refute it at one input. -/
def fnExactFindBookWrong : ChangeSpec := { name := "fnExactFindBook", vars := ["loop.example/g01326/impl.errInvalid", "loop.example/g01326/impl.errState", "loop.example/g01326/impl.errSyntax"], fn := fun _ => fun
  | [d1, d2, d3, d4, g1, g2, g3] => { results := [.lit (.bool false)], args := [d1, d2, d3, d4], vars := [g1, g2, g3] }
  | _ => none }
def FnExactFindBookWrongFalsely : Prop := fnExactFindBookRow.holds Tryd.pinned (OpenSpec.ofChange fnExactFindBookWrong)

/-- 'laws.FnExactClassRange': WHATEVER THE INPUT: true; the input reads as it did. -/
def fnExactClassRangeSpec : ChangeSpec := { name := "fnExactClassRange", vars := ["loop.example/g01326/impl.errInvalid", "loop.example/g01326/impl.errState", "loop.example/g01326/impl.errSyntax"], fn := fun _ => fun
  | [d1, d2, d3, g1, g2, g3] => { results := [.lit (.bool true)], args := [d1, d2, d3], vars := [g1, g2, g3] }
  | _ => none }
def fnExactClassRangeRow : OpenClaim := { program := "ytonclaakaaidlacdoor", sum := "aafb6ef9e4a85d456aa8b1ceaa7694d5e7f7d68e7c137db6c8eade8e35c0e199", func := "loop.example/g01326/laws.FnExactClassRange", spec := "fnExactClassRange", inPlace := ["internal/reflectlite.TypeOf"], unfollowed := true, recurses := true, named := ["loop.example/g01326/impl.errInvalid", "loop.example/g01326/impl.errState", "loop.example/g01326/impl.errSyntax"], ifaces := true, apart := false, laid := [("loop.example/g01326/impl.errInvalid", laid_loop_example_g01326_impl_errInvalid), ("loop.example/g01326/impl.errState", laid_loop_example_g01326_impl_errState), ("loop.example/g01326/impl.errSyntax", laid_loop_example_g01326_impl_errSyntax)] }
def FnExactClassRangeSaid : Prop := fnExactClassRangeRow.holds Tryd.pinned (OpenSpec.ofChange fnExactClassRangeSpec)

/-- ITS FALSE NEIGHBOUR: 'it returns false'. Refute it at one input. -/
def fnExactClassRangeWrong : ChangeSpec := { name := "fnExactClassRange", vars := ["loop.example/g01326/impl.errInvalid", "loop.example/g01326/impl.errState", "loop.example/g01326/impl.errSyntax"], fn := fun _ => fun
  | [d1, d2, d3, g1, g2, g3] => { results := [.lit (.bool false)], args := [d1, d2, d3], vars := [g1, g2, g3] }
  | _ => none }
def FnExactClassRangeWrongFalsely : Prop := fnExactClassRangeRow.holds Tryd.pinned (OpenSpec.ofChange fnExactClassRangeWrong)

/-- 'laws.FnExactMergeBooks': WHATEVER THE INPUT: true; the input reads as it did. -/
def fnExactMergeBooksSpec : ChangeSpec := { name := "fnExactMergeBooks", vars := ["loop.example/g01326/impl.errInvalid", "loop.example/g01326/impl.errState", "loop.example/g01326/impl.errSyntax"], fn := fun _ => fun
  | [d1, d2, g1, g2, g3] => { results := [.lit (.bool true)], args := [d1, d2], vars := [g1, g2, g3] }
  | _ => none }
def fnExactMergeBooksRow : OpenClaim := { program := "ytonclaakaaidlacdoor", sum := "aafb6ef9e4a85d456aa8b1ceaa7694d5e7f7d68e7c137db6c8eade8e35c0e199", func := "loop.example/g01326/laws.FnExactMergeBooks", spec := "fnExactMergeBooks", inPlace := ["internal/reflectlite.TypeOf"], unfollowed := true, recurses := true, named := ["loop.example/g01326/impl.errInvalid", "loop.example/g01326/impl.errState", "loop.example/g01326/impl.errSyntax"], ifaces := true, apart := false, laid := [("loop.example/g01326/impl.errInvalid", laid_loop_example_g01326_impl_errInvalid), ("loop.example/g01326/impl.errState", laid_loop_example_g01326_impl_errState), ("loop.example/g01326/impl.errSyntax", laid_loop_example_g01326_impl_errSyntax)] }
def FnExactMergeBooksSaid : Prop := fnExactMergeBooksRow.holds Tryd.pinned (OpenSpec.ofChange fnExactMergeBooksSpec)

/-- ITS FALSE NEIGHBOUR: 'it returns false'. Refute it at one input. -/
def fnExactMergeBooksWrong : ChangeSpec := { name := "fnExactMergeBooks", vars := ["loop.example/g01326/impl.errInvalid", "loop.example/g01326/impl.errState", "loop.example/g01326/impl.errSyntax"], fn := fun _ => fun
  | [d1, d2, g1, g2, g3] => { results := [.lit (.bool false)], args := [d1, d2], vars := [g1, g2, g3] }
  | _ => none }
def FnExactMergeBooksWrongFalsely : Prop := fnExactMergeBooksRow.holds Tryd.pinned (OpenSpec.ofChange fnExactMergeBooksWrong)

/- THE SECOND FORM. 'bulk': how many values and letters a reading holds, each counted each time it is reached (what is shared counts as often as it is met; a slice's spare places count too). A statement '..UptoSaid' is the law's where the arguments, and the package variables that the reading takes, are together of bulk at most 1048576: NARROWER than '..Said'. Prove '..Said' where nothing that the law and all that it calls make is longer than what came in: it says more and counts as full. Else prove '..UptoSaid'. A law counts once. -/
mutual
def uptoBulk {H : Type} : DataW H → Nat
  | .lit (.string bytes) => bytes.length + 1
  | .lit _ => 1
  | .nil => 1
  | .ptr d => uptoBulk d + 1
  | .slice elems spare => uptoBulkAll elems + uptoBulkAll spare + 1
  | .agg parts => uptoBulkAll parts + 1
  | .iface _ d => uptoBulk d + 1
  | .map entries => uptoBulkEntries entries + 1
  | .held _ => 1
def uptoBulkAll {H : Type} : List (DataW H) → Nat
  | [] => 0
  | d :: r => uptoBulk d + uptoBulkAll r
def uptoBulkEntries {H : Type} : List (Lit × DataW H) → Nat
  | [] => 0
  | x :: r => uptoBulkEntry x + uptoBulkEntries r
def uptoBulkEntry {H : Type} : Lit × DataW H → Nat
  | (.string bytes, d) => bytes.length + uptoBulk d + 1
  | (_, d) => uptoBulk d + 1
 end
def uptoSmall : (H : Type) → List (DataW H) → Bool := fun _ ds => decide (uptoBulkAll ds ≤ 1048576)
def OpenSpec.upto (s : _root_.Go.ChangeSpec) : _root_.Go.OpenSpec := { _root_.Go.OpenSpec.ofChange s with cond := some uptoSmall }

/-- 'laws.FnExactIsSorted', WHERE WHAT IT READS IS OF BULK AT MOST 1048576: true; the input reads as it did. -/
def fnExactIsSortedUptoRow : OpenClaim := { program := "ytonclaakaaidlacdoor", sum := "aafb6ef9e4a85d456aa8b1ceaa7694d5e7f7d68e7c137db6c8eade8e35c0e199", func := "loop.example/g01326/laws.FnExactIsSorted", spec := "fnExactIsSorted", inPlace := ["internal/reflectlite.TypeOf"], unfollowed := true, recurses := true, named := ["loop.example/g01326/impl.errState", "loop.example/g01326/impl.errInvalid", "loop.example/g01326/impl.errSyntax"], ifaces := true, apart := false, laid := [("loop.example/g01326/impl.errInvalid", laid_loop_example_g01326_impl_errInvalid), ("loop.example/g01326/impl.errState", laid_loop_example_g01326_impl_errState), ("loop.example/g01326/impl.errSyntax", laid_loop_example_g01326_impl_errSyntax)], narrowed := true }
def FnExactIsSortedUptoSaid : Prop := fnExactIsSortedUptoRow.holds Tryd.pinned (OpenSpec.upto fnExactIsSortedSpec)

/-- 'laws.FnExactPlaceFor', WHERE WHAT IT READS IS OF BULK AT MOST 1048576: true; the input reads as it did. -/
def fnExactPlaceForUptoRow : OpenClaim := { program := "ytonclaakaaidlacdoor", sum := "aafb6ef9e4a85d456aa8b1ceaa7694d5e7f7d68e7c137db6c8eade8e35c0e199", func := "loop.example/g01326/laws.FnExactPlaceFor", spec := "fnExactPlaceFor", inPlace := ["internal/reflectlite.TypeOf"], unfollowed := true, recurses := true, named := ["loop.example/g01326/impl.errInvalid", "loop.example/g01326/impl.errState", "loop.example/g01326/impl.errSyntax"], ifaces := true, apart := false, laid := [("loop.example/g01326/impl.errInvalid", laid_loop_example_g01326_impl_errInvalid), ("loop.example/g01326/impl.errState", laid_loop_example_g01326_impl_errState), ("loop.example/g01326/impl.errSyntax", laid_loop_example_g01326_impl_errSyntax)], narrowed := true }
def FnExactPlaceForUptoSaid : Prop := fnExactPlaceForUptoRow.holds Tryd.pinned (OpenSpec.upto fnExactPlaceForSpec)

/-- 'laws.FnExactFindBook', WHERE WHAT IT READS IS OF BULK AT MOST 1048576: true; the input reads as it did. -/
def fnExactFindBookUptoRow : OpenClaim := { program := "ytonclaakaaidlacdoor", sum := "aafb6ef9e4a85d456aa8b1ceaa7694d5e7f7d68e7c137db6c8eade8e35c0e199", func := "loop.example/g01326/laws.FnExactFindBook", spec := "fnExactFindBook", inPlace := ["internal/reflectlite.TypeOf"], unfollowed := true, recurses := true, named := ["loop.example/g01326/impl.errInvalid", "loop.example/g01326/impl.errState", "loop.example/g01326/impl.errSyntax"], ifaces := true, apart := false, laid := [("loop.example/g01326/impl.errInvalid", laid_loop_example_g01326_impl_errInvalid), ("loop.example/g01326/impl.errState", laid_loop_example_g01326_impl_errState), ("loop.example/g01326/impl.errSyntax", laid_loop_example_g01326_impl_errSyntax)], narrowed := true }
def FnExactFindBookUptoSaid : Prop := fnExactFindBookUptoRow.holds Tryd.pinned (OpenSpec.upto fnExactFindBookSpec)

/-- 'laws.FnExactClassRange', WHERE WHAT IT READS IS OF BULK AT MOST 1048576: true; the input reads as it did. -/
def fnExactClassRangeUptoRow : OpenClaim := { program := "ytonclaakaaidlacdoor", sum := "aafb6ef9e4a85d456aa8b1ceaa7694d5e7f7d68e7c137db6c8eade8e35c0e199", func := "loop.example/g01326/laws.FnExactClassRange", spec := "fnExactClassRange", inPlace := ["internal/reflectlite.TypeOf"], unfollowed := true, recurses := true, named := ["loop.example/g01326/impl.errInvalid", "loop.example/g01326/impl.errState", "loop.example/g01326/impl.errSyntax"], ifaces := true, apart := false, laid := [("loop.example/g01326/impl.errInvalid", laid_loop_example_g01326_impl_errInvalid), ("loop.example/g01326/impl.errState", laid_loop_example_g01326_impl_errState), ("loop.example/g01326/impl.errSyntax", laid_loop_example_g01326_impl_errSyntax)], narrowed := true }
def FnExactClassRangeUptoSaid : Prop := fnExactClassRangeUptoRow.holds Tryd.pinned (OpenSpec.upto fnExactClassRangeSpec)

/-- 'laws.FnExactMergeBooks', WHERE WHAT IT READS IS OF BULK AT MOST 1048576: true; the input reads as it did. -/
def fnExactMergeBooksUptoRow : OpenClaim := { program := "ytonclaakaaidlacdoor", sum := "aafb6ef9e4a85d456aa8b1ceaa7694d5e7f7d68e7c137db6c8eade8e35c0e199", func := "loop.example/g01326/laws.FnExactMergeBooks", spec := "fnExactMergeBooks", inPlace := ["internal/reflectlite.TypeOf"], unfollowed := true, recurses := true, named := ["loop.example/g01326/impl.errInvalid", "loop.example/g01326/impl.errState", "loop.example/g01326/impl.errSyntax"], ifaces := true, apart := false, laid := [("loop.example/g01326/impl.errInvalid", laid_loop_example_g01326_impl_errInvalid), ("loop.example/g01326/impl.errState", laid_loop_example_g01326_impl_errState), ("loop.example/g01326/impl.errSyntax", laid_loop_example_g01326_impl_errSyntax)], narrowed := true }
def FnExactMergeBooksUptoSaid : Prop := fnExactMergeBooksUptoRow.holds Tryd.pinned (OpenSpec.upto fnExactMergeBooksSpec)

end Rows
end Go.Proofs.YtonclaakaaidlacDoor
