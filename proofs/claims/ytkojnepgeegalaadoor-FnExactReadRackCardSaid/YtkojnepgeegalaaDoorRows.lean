/-
  NARROWER THAN 'FOR EVERY INPUT', by the rows' own cells (each row's printed sentence says how): FnExactReadBook: ifaces, laid · FnExactReadBooks: ifaces, laid · FnExactReadMoves: ifaces, laid · FnExactReadAct: ifaces, laid · FnExactReadActs: ifaces, laid · FnExactReadCase: ifaces, laid · FnExactReadRack: ifaces, laid.
  DERIVED. THE GIVEN ROWS OF THIS SEAT. 7 by the template 'for every input the law returns true; each argument reads behind the call as it read before'; 0 by the template 'total and deterministic' (their statements: YtkojnepgeegalaaDoorTotals.lean).
  GIVEN WITH THE SEED: the statements are not yours to turn. If you find one false, say at which input.
  Laid BY PROGRAM, IN A SANDBOX (cutbox-rows.mjs): the forced cells as the released guide's own fill.sh prints them over the translation 6aa37e68d19941e9… (all of the seat's roots in one cut). By AI agents, Wed Nov 11 2026. No macro, syntax, notation, axiom, sorry.
-/
import Derived.Test.YtkojnepgeegalaaDoorChecked
import GoSem.Claim
import GoSem.ClaimJoined
import GoSem.ClaimMapViews
import Derived.JoinedTies
import Derived.KernelRfl
namespace Go.Proofs.YtkojnepgeegalaaDoor
/- THE CELL 'sum', in the pinned program and in every row, IS THE sha256 OF THE DUMP (.gsa) THAT YtkojnepgeegalaaDoorProg.lean LOADS. Nothing in Lean hashes anything: it is a label: what it is worth is what the hold of that sum in a sandbox is worth. -/
noncomputable def Tryd.pinned : Pinned := { name := "ytkojnepgeegalaadoor", sum := "6aa37e68d19941e92d98785bbee1909729963a86a0b99a70929c78ad0cacdb4f", checked := Tryd.checked }
namespace Rows
def none {H : Type} : Left H := { results := [], args := [] }

/- WHAT THE LISTED PACKAGE-LEVEL VARIABLES READ AS WHEN THE CALL BEGINS. Each datum BY PROGRAM (the guide's laid-datum.mjs) off the statement by which the dump's own 'gosem.cut.vars' lays the variable. In a bare row this is a premise. The card (YtkojnepgeegalaaDoorCards.lean) ties it to the program's text. -/
def laid_loop_example_g01326_impl_errState {H : Type} : DataW H := .iface "*errors.errorString" (.ptr (.agg [.lit (.string [115, 116, 97, 116, 101])]))
def laid_loop_example_g01326_impl_errSyntax {H : Type} : DataW H := .iface "*errors.errorString" (.ptr (.agg [.lit (.string [115, 121, 110, 116, 97, 120])]))
def laid_loop_example_g01326_impl_errInvalid {H : Type} : DataW H := .iface "*errors.errorString" (.ptr (.agg [.lit (.string [105, 110, 118, 97, 108, 105, 100])]))

/-- 'laws.FnExactReadBook': WHATEVER THE INPUT: true; the input reads as it did. -/
def fnExactReadBookSpec : ChangeSpec := { name := "fnExactReadBook", vars := ["loop.example/g01326/impl.errSyntax", "loop.example/g01326/impl.errState"], fn := fun _ => fun
  | [d, g1, g2] => { results := [.lit (.bool true)], args := [d], vars := [g1, g2] }
  | _ => none }
def fnExactReadBookRow : OpenClaim := { program := "ytkojnepgeegalaadoor", sum := "6aa37e68d19941e92d98785bbee1909729963a86a0b99a70929c78ad0cacdb4f", func := "loop.example/g01326/laws.FnExactReadBook", spec := "fnExactReadBook", inPlace := ["internal/reflectlite.TypeOf"], unfollowed := true, recurses := true, named := ["loop.example/g01326/impl.errSyntax", "loop.example/g01326/impl.errState"], ifaces := true, apart := false, laid := [("loop.example/g01326/impl.errState", laid_loop_example_g01326_impl_errState), ("loop.example/g01326/impl.errSyntax", laid_loop_example_g01326_impl_errSyntax)] }
def FnExactReadBookSaid : Prop := fnExactReadBookRow.holds Tryd.pinned (OpenSpec.ofChange fnExactReadBookSpec)

/-- ITS FALSE NEIGHBOUR: 'it returns false'. Refute it at one input. -/
def fnExactReadBookWrong : ChangeSpec := { name := "fnExactReadBook", vars := ["loop.example/g01326/impl.errSyntax", "loop.example/g01326/impl.errState"], fn := fun _ => fun
  | [d, g1, g2] => { results := [.lit (.bool false)], args := [d], vars := [g1, g2] }
  | _ => none }
def FnExactReadBookWrongFalsely : Prop := fnExactReadBookRow.holds Tryd.pinned (OpenSpec.ofChange fnExactReadBookWrong)

/-- 'laws.FnExactReadBooks': WHATEVER THE INPUT: true; the input reads as it did. -/
def fnExactReadBooksSpec : ChangeSpec := { name := "fnExactReadBooks", vars := ["loop.example/g01326/impl.errSyntax", "loop.example/g01326/impl.errState"], fn := fun _ => fun
  | [d, g1, g2] => { results := [.lit (.bool true)], args := [d], vars := [g1, g2] }
  | _ => none }
def fnExactReadBooksRow : OpenClaim := { program := "ytkojnepgeegalaadoor", sum := "6aa37e68d19941e92d98785bbee1909729963a86a0b99a70929c78ad0cacdb4f", func := "loop.example/g01326/laws.FnExactReadBooks", spec := "fnExactReadBooks", inPlace := ["internal/reflectlite.TypeOf"], unfollowed := true, recurses := true, named := ["loop.example/g01326/impl.errSyntax", "loop.example/g01326/impl.errState"], ifaces := true, apart := false, laid := [("loop.example/g01326/impl.errState", laid_loop_example_g01326_impl_errState), ("loop.example/g01326/impl.errSyntax", laid_loop_example_g01326_impl_errSyntax)] }
def FnExactReadBooksSaid : Prop := fnExactReadBooksRow.holds Tryd.pinned (OpenSpec.ofChange fnExactReadBooksSpec)

/-- ITS FALSE NEIGHBOUR: 'it returns false'. Refute it at one input. -/
def fnExactReadBooksWrong : ChangeSpec := { name := "fnExactReadBooks", vars := ["loop.example/g01326/impl.errSyntax", "loop.example/g01326/impl.errState"], fn := fun _ => fun
  | [d, g1, g2] => { results := [.lit (.bool false)], args := [d], vars := [g1, g2] }
  | _ => none }
def FnExactReadBooksWrongFalsely : Prop := fnExactReadBooksRow.holds Tryd.pinned (OpenSpec.ofChange fnExactReadBooksWrong)

/-- 'laws.FnExactReadMoves': WHATEVER THE INPUT: true; the input reads as it did. -/
def fnExactReadMovesSpec : ChangeSpec := { name := "fnExactReadMoves", vars := ["loop.example/g01326/impl.errSyntax", "loop.example/g01326/impl.errState"], fn := fun _ => fun
  | [d, g1, g2] => { results := [.lit (.bool true)], args := [d], vars := [g1, g2] }
  | _ => none }
def fnExactReadMovesRow : OpenClaim := { program := "ytkojnepgeegalaadoor", sum := "6aa37e68d19941e92d98785bbee1909729963a86a0b99a70929c78ad0cacdb4f", func := "loop.example/g01326/laws.FnExactReadMoves", spec := "fnExactReadMoves", inPlace := ["internal/reflectlite.TypeOf"], unfollowed := true, recurses := true, named := ["loop.example/g01326/impl.errSyntax", "loop.example/g01326/impl.errState"], ifaces := true, apart := false, laid := [("loop.example/g01326/impl.errState", laid_loop_example_g01326_impl_errState), ("loop.example/g01326/impl.errSyntax", laid_loop_example_g01326_impl_errSyntax)] }
def FnExactReadMovesSaid : Prop := fnExactReadMovesRow.holds Tryd.pinned (OpenSpec.ofChange fnExactReadMovesSpec)

/-- ITS FALSE NEIGHBOUR: 'it returns false'. Refute it at one input. -/
def fnExactReadMovesWrong : ChangeSpec := { name := "fnExactReadMoves", vars := ["loop.example/g01326/impl.errSyntax", "loop.example/g01326/impl.errState"], fn := fun _ => fun
  | [d, g1, g2] => { results := [.lit (.bool false)], args := [d], vars := [g1, g2] }
  | _ => none }
def FnExactReadMovesWrongFalsely : Prop := fnExactReadMovesRow.holds Tryd.pinned (OpenSpec.ofChange fnExactReadMovesWrong)

/-- 'laws.FnExactReadAct': WHATEVER THE INPUT: true; the input reads as it did. -/
def fnExactReadActSpec : ChangeSpec := { name := "fnExactReadAct", vars := ["loop.example/g01326/impl.errSyntax", "loop.example/g01326/impl.errState"], fn := fun _ => fun
  | [d, g1, g2] => { results := [.lit (.bool true)], args := [d], vars := [g1, g2] }
  | _ => none }
def fnExactReadActRow : OpenClaim := { program := "ytkojnepgeegalaadoor", sum := "6aa37e68d19941e92d98785bbee1909729963a86a0b99a70929c78ad0cacdb4f", func := "loop.example/g01326/laws.FnExactReadAct", spec := "fnExactReadAct", inPlace := ["internal/reflectlite.TypeOf"], unfollowed := true, recurses := true, named := ["loop.example/g01326/impl.errSyntax", "loop.example/g01326/impl.errState"], ifaces := true, apart := false, laid := [("loop.example/g01326/impl.errState", laid_loop_example_g01326_impl_errState), ("loop.example/g01326/impl.errSyntax", laid_loop_example_g01326_impl_errSyntax)] }
def FnExactReadActSaid : Prop := fnExactReadActRow.holds Tryd.pinned (OpenSpec.ofChange fnExactReadActSpec)

/-- ITS FALSE NEIGHBOUR: 'it returns false'. Refute it at one input. -/
def fnExactReadActWrong : ChangeSpec := { name := "fnExactReadAct", vars := ["loop.example/g01326/impl.errSyntax", "loop.example/g01326/impl.errState"], fn := fun _ => fun
  | [d, g1, g2] => { results := [.lit (.bool false)], args := [d], vars := [g1, g2] }
  | _ => none }
def FnExactReadActWrongFalsely : Prop := fnExactReadActRow.holds Tryd.pinned (OpenSpec.ofChange fnExactReadActWrong)

/-- 'laws.FnExactReadActs': WHATEVER THE INPUT: true; the input reads as it did. -/
def fnExactReadActsSpec : ChangeSpec := { name := "fnExactReadActs", vars := ["loop.example/g01326/impl.errSyntax", "loop.example/g01326/impl.errState"], fn := fun _ => fun
  | [d, g1, g2] => { results := [.lit (.bool true)], args := [d], vars := [g1, g2] }
  | _ => none }
def fnExactReadActsRow : OpenClaim := { program := "ytkojnepgeegalaadoor", sum := "6aa37e68d19941e92d98785bbee1909729963a86a0b99a70929c78ad0cacdb4f", func := "loop.example/g01326/laws.FnExactReadActs", spec := "fnExactReadActs", inPlace := ["internal/reflectlite.TypeOf"], unfollowed := true, recurses := true, named := ["loop.example/g01326/impl.errSyntax", "loop.example/g01326/impl.errState"], ifaces := true, apart := false, laid := [("loop.example/g01326/impl.errState", laid_loop_example_g01326_impl_errState), ("loop.example/g01326/impl.errSyntax", laid_loop_example_g01326_impl_errSyntax)] }
def FnExactReadActsSaid : Prop := fnExactReadActsRow.holds Tryd.pinned (OpenSpec.ofChange fnExactReadActsSpec)

/-- ITS FALSE NEIGHBOUR: 'it returns false'. Refute it at one input. -/
def fnExactReadActsWrong : ChangeSpec := { name := "fnExactReadActs", vars := ["loop.example/g01326/impl.errSyntax", "loop.example/g01326/impl.errState"], fn := fun _ => fun
  | [d, g1, g2] => { results := [.lit (.bool false)], args := [d], vars := [g1, g2] }
  | _ => none }
def FnExactReadActsWrongFalsely : Prop := fnExactReadActsRow.holds Tryd.pinned (OpenSpec.ofChange fnExactReadActsWrong)

/-- 'laws.FnExactReadCase': WHATEVER THE INPUT: true; the input reads as it did. -/
def fnExactReadCaseSpec : ChangeSpec := { name := "fnExactReadCase", vars := ["loop.example/g01326/impl.errSyntax", "loop.example/g01326/impl.errState"], fn := fun _ => fun
  | [d, g1, g2] => { results := [.lit (.bool true)], args := [d], vars := [g1, g2] }
  | _ => none }
def fnExactReadCaseRow : OpenClaim := { program := "ytkojnepgeegalaadoor", sum := "6aa37e68d19941e92d98785bbee1909729963a86a0b99a70929c78ad0cacdb4f", func := "loop.example/g01326/laws.FnExactReadCase", spec := "fnExactReadCase", inPlace := ["internal/reflectlite.TypeOf"], unfollowed := true, recurses := true, named := ["loop.example/g01326/impl.errSyntax", "loop.example/g01326/impl.errState"], ifaces := true, apart := false, laid := [("loop.example/g01326/impl.errState", laid_loop_example_g01326_impl_errState), ("loop.example/g01326/impl.errSyntax", laid_loop_example_g01326_impl_errSyntax)] }
def FnExactReadCaseSaid : Prop := fnExactReadCaseRow.holds Tryd.pinned (OpenSpec.ofChange fnExactReadCaseSpec)

/-- ITS FALSE NEIGHBOUR: 'it returns false'. Refute it at one input. -/
def fnExactReadCaseWrong : ChangeSpec := { name := "fnExactReadCase", vars := ["loop.example/g01326/impl.errSyntax", "loop.example/g01326/impl.errState"], fn := fun _ => fun
  | [d, g1, g2] => { results := [.lit (.bool false)], args := [d], vars := [g1, g2] }
  | _ => none }
def FnExactReadCaseWrongFalsely : Prop := fnExactReadCaseRow.holds Tryd.pinned (OpenSpec.ofChange fnExactReadCaseWrong)

/-- 'laws.FnExactReadRack': WHATEVER THE INPUT: true; the input reads as it did. -/
def fnExactReadRackSpec : ChangeSpec := { name := "fnExactReadRack", vars := ["loop.example/g01326/impl.errSyntax", "loop.example/g01326/impl.errInvalid", "loop.example/g01326/impl.errState"], fn := fun _ => fun
  | [d, g1, g2, g3] => { results := [.lit (.bool true)], args := [d], vars := [g1, g2, g3] }
  | _ => none }
def fnExactReadRackRow : OpenClaim := { program := "ytkojnepgeegalaadoor", sum := "6aa37e68d19941e92d98785bbee1909729963a86a0b99a70929c78ad0cacdb4f", func := "loop.example/g01326/laws.FnExactReadRack", spec := "fnExactReadRack", inPlace := ["internal/reflectlite.TypeOf"], unfollowed := true, recurses := true, named := ["loop.example/g01326/impl.errSyntax", "loop.example/g01326/impl.errInvalid", "loop.example/g01326/impl.errState"], ifaces := true, apart := false, laid := [("loop.example/g01326/impl.errInvalid", laid_loop_example_g01326_impl_errInvalid), ("loop.example/g01326/impl.errState", laid_loop_example_g01326_impl_errState), ("loop.example/g01326/impl.errSyntax", laid_loop_example_g01326_impl_errSyntax)] }
def FnExactReadRackSaid : Prop := fnExactReadRackRow.holds Tryd.pinned (OpenSpec.ofChange fnExactReadRackSpec)

/-- ITS FALSE NEIGHBOUR: 'it returns false'. Refute it at one input. -/
def fnExactReadRackWrong : ChangeSpec := { name := "fnExactReadRack", vars := ["loop.example/g01326/impl.errSyntax", "loop.example/g01326/impl.errInvalid", "loop.example/g01326/impl.errState"], fn := fun _ => fun
  | [d, g1, g2, g3] => { results := [.lit (.bool false)], args := [d], vars := [g1, g2, g3] }
  | _ => none }
def FnExactReadRackWrongFalsely : Prop := fnExactReadRackRow.holds Tryd.pinned (OpenSpec.ofChange fnExactReadRackWrong)

/- THE SECOND FORM. 'bulk': how many values and letters a reading holds, each counted each time it is reached (what is shared counts as often as it is met; a slice's spare places count too). A statement '..UptoSaid' is the law's where the arguments, and the package variables that the reading takes, are together of bulk at most 1048576: NARROWER than '..Said'. Prove '..Said' where nothing that the law and all that it calls make is longer than what came in: it says more and counts as full. Else prove '..UptoSaid'. A law counts once. -/
mutual
def uptoBulk {H : Type} : DataW H → Nat
  | .lit (.string bytes) => bytes.length + 1
  | .lit _ => 1
  | .nil => 1
  | .ptr d => uptoBulk d + 1
  | .slice elems spare => uptoBulkAll elems + uptoBulkAll spare + 1
  | .agg parts => uptoBulkAll parts + 1
  | .iface _ d => uptoBulk d + 1
  | .map entries => uptoBulkEntries entries + 1
  | .held _ => 1
def uptoBulkAll {H : Type} : List (DataW H) → Nat
  | [] => 0
  | d :: r => uptoBulk d + uptoBulkAll r
def uptoBulkEntries {H : Type} : List (Lit × DataW H) → Nat
  | [] => 0
  | x :: r => uptoBulkEntry x + uptoBulkEntries r
def uptoBulkEntry {H : Type} : Lit × DataW H → Nat
  | (.string bytes, d) => bytes.length + uptoBulk d + 1
  | (_, d) => uptoBulk d + 1
 end
def uptoSmall : (H : Type) → List (DataW H) → Bool := fun _ ds => decide (uptoBulkAll ds ≤ 1048576)
def OpenSpec.upto (s : _root_.Go.ChangeSpec) : _root_.Go.OpenSpec := { _root_.Go.OpenSpec.ofChange s with cond := some uptoSmall }

/-- 'laws.FnExactReadBook', WHERE WHAT IT READS IS OF BULK AT MOST 1048576: true; the input reads as it did. -/
def fnExactReadBookUptoRow : OpenClaim := { program := "ytkojnepgeegalaadoor", sum := "6aa37e68d19941e92d98785bbee1909729963a86a0b99a70929c78ad0cacdb4f", func := "loop.example/g01326/laws.FnExactReadBook", spec := "fnExactReadBook", inPlace := ["internal/reflectlite.TypeOf"], unfollowed := true, recurses := true, named := ["loop.example/g01326/impl.errSyntax", "loop.example/g01326/impl.errState"], ifaces := true, apart := false, laid := [("loop.example/g01326/impl.errState", laid_loop_example_g01326_impl_errState), ("loop.example/g01326/impl.errSyntax", laid_loop_example_g01326_impl_errSyntax)], narrowed := true }
def FnExactReadBookUptoSaid : Prop := fnExactReadBookUptoRow.holds Tryd.pinned (OpenSpec.upto fnExactReadBookSpec)

/-- 'laws.FnExactReadBooks', WHERE WHAT IT READS IS OF BULK AT MOST 1048576: true; the input reads as it did. -/
def fnExactReadBooksUptoRow : OpenClaim := { program := "ytkojnepgeegalaadoor", sum := "6aa37e68d19941e92d98785bbee1909729963a86a0b99a70929c78ad0cacdb4f", func := "loop.example/g01326/laws.FnExactReadBooks", spec := "fnExactReadBooks", inPlace := ["internal/reflectlite.TypeOf"], unfollowed := true, recurses := true, named := ["loop.example/g01326/impl.errSyntax", "loop.example/g01326/impl.errState"], ifaces := true, apart := false, laid := [("loop.example/g01326/impl.errState", laid_loop_example_g01326_impl_errState), ("loop.example/g01326/impl.errSyntax", laid_loop_example_g01326_impl_errSyntax)], narrowed := true }
def FnExactReadBooksUptoSaid : Prop := fnExactReadBooksUptoRow.holds Tryd.pinned (OpenSpec.upto fnExactReadBooksSpec)

/-- 'laws.FnExactReadMoves', WHERE WHAT IT READS IS OF BULK AT MOST 1048576: true; the input reads as it did. -/
def fnExactReadMovesUptoRow : OpenClaim := { program := "ytkojnepgeegalaadoor", sum := "6aa37e68d19941e92d98785bbee1909729963a86a0b99a70929c78ad0cacdb4f", func := "loop.example/g01326/laws.FnExactReadMoves", spec := "fnExactReadMoves", inPlace := ["internal/reflectlite.TypeOf"], unfollowed := true, recurses := true, named := ["loop.example/g01326/impl.errSyntax", "loop.example/g01326/impl.errState"], ifaces := true, apart := false, laid := [("loop.example/g01326/impl.errState", laid_loop_example_g01326_impl_errState), ("loop.example/g01326/impl.errSyntax", laid_loop_example_g01326_impl_errSyntax)], narrowed := true }
def FnExactReadMovesUptoSaid : Prop := fnExactReadMovesUptoRow.holds Tryd.pinned (OpenSpec.upto fnExactReadMovesSpec)

/-- 'laws.FnExactReadAct', WHERE WHAT IT READS IS OF BULK AT MOST 1048576: true; the input reads as it did. -/
def fnExactReadActUptoRow : OpenClaim := { program := "ytkojnepgeegalaadoor", sum := "6aa37e68d19941e92d98785bbee1909729963a86a0b99a70929c78ad0cacdb4f", func := "loop.example/g01326/laws.FnExactReadAct", spec := "fnExactReadAct", inPlace := ["internal/reflectlite.TypeOf"], unfollowed := true, recurses := true, named := ["loop.example/g01326/impl.errSyntax", "loop.example/g01326/impl.errState"], ifaces := true, apart := false, laid := [("loop.example/g01326/impl.errState", laid_loop_example_g01326_impl_errState), ("loop.example/g01326/impl.errSyntax", laid_loop_example_g01326_impl_errSyntax)], narrowed := true }
def FnExactReadActUptoSaid : Prop := fnExactReadActUptoRow.holds Tryd.pinned (OpenSpec.upto fnExactReadActSpec)

/-- 'laws.FnExactReadActs', WHERE WHAT IT READS IS OF BULK AT MOST 1048576: true; the input reads as it did. -/
def fnExactReadActsUptoRow : OpenClaim := { program := "ytkojnepgeegalaadoor", sum := "6aa37e68d19941e92d98785bbee1909729963a86a0b99a70929c78ad0cacdb4f", func := "loop.example/g01326/laws.FnExactReadActs", spec := "fnExactReadActs", inPlace := ["internal/reflectlite.TypeOf"], unfollowed := true, recurses := true, named := ["loop.example/g01326/impl.errSyntax", "loop.example/g01326/impl.errState"], ifaces := true, apart := false, laid := [("loop.example/g01326/impl.errState", laid_loop_example_g01326_impl_errState), ("loop.example/g01326/impl.errSyntax", laid_loop_example_g01326_impl_errSyntax)], narrowed := true }
def FnExactReadActsUptoSaid : Prop := fnExactReadActsUptoRow.holds Tryd.pinned (OpenSpec.upto fnExactReadActsSpec)

/-- 'laws.FnExactReadCase', WHERE WHAT IT READS IS OF BULK AT MOST 1048576: true; the input reads as it did. -/
def fnExactReadCaseUptoRow : OpenClaim := { program := "ytkojnepgeegalaadoor", sum := "6aa37e68d19941e92d98785bbee1909729963a86a0b99a70929c78ad0cacdb4f", func := "loop.example/g01326/laws.FnExactReadCase", spec := "fnExactReadCase", inPlace := ["internal/reflectlite.TypeOf"], unfollowed := true, recurses := true, named := ["loop.example/g01326/impl.errSyntax", "loop.example/g01326/impl.errState"], ifaces := true, apart := false, laid := [("loop.example/g01326/impl.errState", laid_loop_example_g01326_impl_errState), ("loop.example/g01326/impl.errSyntax", laid_loop_example_g01326_impl_errSyntax)], narrowed := true }
def FnExactReadCaseUptoSaid : Prop := fnExactReadCaseUptoRow.holds Tryd.pinned (OpenSpec.upto fnExactReadCaseSpec)

/-- 'laws.FnExactReadRack', WHERE WHAT IT READS IS OF BULK AT MOST 1048576: true; the input reads as it did. -/
def fnExactReadRackUptoRow : OpenClaim := { program := "ytkojnepgeegalaadoor", sum := "6aa37e68d19941e92d98785bbee1909729963a86a0b99a70929c78ad0cacdb4f", func := "loop.example/g01326/laws.FnExactReadRack", spec := "fnExactReadRack", inPlace := ["internal/reflectlite.TypeOf"], unfollowed := true, recurses := true, named := ["loop.example/g01326/impl.errSyntax", "loop.example/g01326/impl.errInvalid", "loop.example/g01326/impl.errState"], ifaces := true, apart := false, laid := [("loop.example/g01326/impl.errInvalid", laid_loop_example_g01326_impl_errInvalid), ("loop.example/g01326/impl.errState", laid_loop_example_g01326_impl_errState), ("loop.example/g01326/impl.errSyntax", laid_loop_example_g01326_impl_errSyntax)], narrowed := true }
def FnExactReadRackUptoSaid : Prop := fnExactReadRackUptoRow.holds Tryd.pinned (OpenSpec.upto fnExactReadRackSpec)

end Rows
end Go.Proofs.YtkojnepgeegalaaDoor
