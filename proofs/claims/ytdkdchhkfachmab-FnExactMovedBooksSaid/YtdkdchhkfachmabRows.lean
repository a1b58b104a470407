/-
  No cell of these rows narrows 'for every input' (looked for: loops, veiled, ifaces, maps, wideKeys, modest, calm, conditions, laid).
  DERIVED. THE GIVEN ROWS OF THIS SEAT. 8 by the template 'for every input the law returns true; each argument reads behind the call as it read before'; 0 by the template 'total and deterministic' (their statements: YtdkdchhkfachmabTotals.lean).
  GIVEN WITH THE SEED: the statements are not yours to turn. If you find one false, say at which input.
  Laid BY PROGRAM, IN A SANDBOX (cutbox-rows.mjs): the forced cells as the released guide's own fill.sh prints them over the translation 5e689814f62a3e29… (all of the seat's roots in one cut). By AI agents, Wed Nov 11 2026. No macro, syntax, notation, axiom, sorry.
-/
import Derived.Test.YtdkdchhkfachmabChecked
import GoSem.Claim
import GoSem.ClaimJoined
import GoSem.ClaimMapViews
import Derived.JoinedTies
import Derived.KernelRfl
namespace Go.Proofs.Ytdkdchhkfachmab
/- THE CELL 'sum', in the pinned program and in every row, IS THE sha256 OF THE DUMP (.gsa) THAT YtdkdchhkfachmabProg.lean LOADS. Nothing in Lean hashes anything: it is a label: what it is worth is what the hold of that sum in a sandbox is worth. -/
noncomputable def Try.pinned : Pinned := { name := "ytdkdchhkfachmab", sum := "5e689814f62a3e299dd562892e9339708fdff1922e9b8c69365169266685fb45", checked := Try.checked }
namespace Rows
def none {H : Type} : Left H := { results := [], args := [] }

/-- 'laws.FnExactMovedBooks': WHATEVER THE INPUT: true; the input reads as it did. -/
def fnExactMovedBooksSpec : ChangeSpec := { name := "fnExactMovedBooks", fn := fun _ => fun
  | [d1, d2] => { results := [.lit (.bool true)], args := [d1, d2] }
  | _ => none }
def fnExactMovedBooksRow : OpenClaim := { program := "ytdkdchhkfachmab", sum := "5e689814f62a3e299dd562892e9339708fdff1922e9b8c69365169266685fb45", func := "loop.example/g01326/laws.FnExactMovedBooks", spec := "fnExactMovedBooks", plainKeys := false, apart := false }
def FnExactMovedBooksSaid : Prop := fnExactMovedBooksRow.holds Try.pinned (OpenSpec.ofChange fnExactMovedBooksSpec)

/-- ITS FALSE NEIGHBOUR: 'it returns false'. Refute it at one input. -/
def fnExactMovedBooksWrong : ChangeSpec := { name := "fnExactMovedBooks", fn := fun _ => fun
  | [d1, d2] => { results := [.lit (.bool false)], args := [d1, d2] }
  | _ => none }
def FnExactMovedBooksWrongFalsely : Prop := fnExactMovedBooksRow.holds Try.pinned (OpenSpec.ofChange fnExactMovedBooksWrong)

/-- 'laws.FnExactFewestShelves': WHATEVER THE INPUT: true; the input reads as it did. -/
def fnExactFewestShelvesSpec : ChangeSpec := { name := "fnExactFewestShelves", fn := fun _ => fun
  | [d1, d2] => { results := [.lit (.bool true)], args := [d1, d2] }
  | _ => none }
def fnExactFewestShelvesRow : OpenClaim := { program := "ytdkdchhkfachmab", sum := "5e689814f62a3e299dd562892e9339708fdff1922e9b8c69365169266685fb45", func := "loop.example/g01326/laws.FnExactFewestShelves", spec := "fnExactFewestShelves", unfollowed := true, recurses := true, plainKeys := false, apart := false }
def FnExactFewestShelvesSaid : Prop := fnExactFewestShelvesRow.holds Try.pinned (OpenSpec.ofChange fnExactFewestShelvesSpec)

/-- ITS FALSE NEIGHBOUR: 'it returns false'. Refute it at one input. -/
def fnExactFewestShelvesWrong : ChangeSpec := { name := "fnExactFewestShelves", fn := fun _ => fun
  | [d1, d2] => { results := [.lit (.bool false)], args := [d1, d2] }
  | _ => none }
def FnExactFewestShelvesWrongFalsely : Prop := fnExactFewestShelvesRow.holds Try.pinned (OpenSpec.ofChange fnExactFewestShelvesWrong)

/-- 'laws.FnExactLeastCost': WHATEVER THE INPUT: true; the input reads as it did. -/
def fnExactLeastCostSpec : ChangeSpec := { name := "fnExactLeastCost", fn := fun _ => fun
  | [d1, d2] => { results := [.lit (.bool true)], args := [d1, d2] }
  | _ => none }
def fnExactLeastCostRow : OpenClaim := { program := "ytdkdchhkfachmab", sum := "5e689814f62a3e299dd562892e9339708fdff1922e9b8c69365169266685fb45", func := "loop.example/g01326/laws.FnExactLeastCost", spec := "fnExactLeastCost", unfollowed := true, recurses := true, plainKeys := false, apart := false }
def FnExactLeastCostSaid : Prop := fnExactLeastCostRow.holds Try.pinned (OpenSpec.ofChange fnExactLeastCostSpec)

/-- ITS FALSE NEIGHBOUR: 'it returns false'. Refute it at one input. -/
def fnExactLeastCostWrong : ChangeSpec := { name := "fnExactLeastCost", fn := fun _ => fun
  | [d1, d2] => { results := [.lit (.bool false)], args := [d1, d2] }
  | _ => none }
def FnExactLeastCostWrongFalsely : Prop := fnExactLeastCostRow.holds Try.pinned (OpenSpec.ofChange fnExactLeastCostWrong)

/-- 'laws.FnExactTableOf': WHATEVER THE INPUT: true; the input reads as it did. -/
def fnExactTableOfSpec : ChangeSpec := { name := "fnExactTableOf", fn := fun _ => fun
  | [d1, d2] => { results := [.lit (.bool true)], args := [d1, d2] }
  | _ => none }
def fnExactTableOfRow : OpenClaim := { program := "ytdkdchhkfachmab", sum := "5e689814f62a3e299dd562892e9339708fdff1922e9b8c69365169266685fb45", func := "loop.example/g01326/laws.FnExactTableOf", spec := "fnExactTableOf", unfollowed := true, recurses := true, plainKeys := false, apart := false }
def FnExactTableOfSaid : Prop := fnExactTableOfRow.holds Try.pinned (OpenSpec.ofChange fnExactTableOfSpec)

/-- ITS FALSE NEIGHBOUR: 'it returns false'. Refute it at one input. -/
def fnExactTableOfWrong : ChangeSpec := { name := "fnExactTableOf", fn := fun _ => fun
  | [d1, d2] => { results := [.lit (.bool false)], args := [d1, d2] }
  | _ => none }
def FnExactTableOfWrongFalsely : Prop := fnExactTableOfRow.holds Try.pinned (OpenSpec.ofChange fnExactTableOfWrong)

/-- 'laws.FnExactCheckTable': WHATEVER THE INPUT: true; the input reads as it did. -/
def fnExactCheckTableSpec : ChangeSpec := { name := "fnExactCheckTable", fn := fun _ => fun
  | [d1, d2, d3] => { results := [.lit (.bool true)], args := [d1, d2, d3] }
  | _ => none }
def fnExactCheckTableRow : OpenClaim := { program := "ytdkdchhkfachmab", sum := "5e689814f62a3e299dd562892e9339708fdff1922e9b8c69365169266685fb45", func := "loop.example/g01326/laws.FnExactCheckTable", spec := "fnExactCheckTable", unfollowed := true, recurses := true, plainKeys := false, apart := false }
def FnExactCheckTableSaid : Prop := fnExactCheckTableRow.holds Try.pinned (OpenSpec.ofChange fnExactCheckTableSpec)

/-- ITS FALSE NEIGHBOUR: 'it returns false'. Refute it at one input. -/
def fnExactCheckTableWrong : ChangeSpec := { name := "fnExactCheckTable", fn := fun _ => fun
  | [d1, d2, d3] => { results := [.lit (.bool false)], args := [d1, d2, d3] }
  | _ => none }
def FnExactCheckTableWrongFalsely : Prop := fnExactCheckTableRow.holds Try.pinned (OpenSpec.ofChange fnExactCheckTableWrong)

/-- 'laws.FnExactProvedCost': WHATEVER THE INPUT: true; the input reads as it did. -/
def fnExactProvedCostSpec : ChangeSpec := { name := "fnExactProvedCost", fn := fun _ => fun
  | [d1, d2, d3] => { results := [.lit (.bool true)], args := [d1, d2, d3] }
  | _ => none }
def fnExactProvedCostRow : OpenClaim := { program := "ytdkdchhkfachmab", sum := "5e689814f62a3e299dd562892e9339708fdff1922e9b8c69365169266685fb45", func := "loop.example/g01326/laws.FnExactProvedCost", spec := "fnExactProvedCost", unfollowed := true, recurses := true, plainKeys := false, apart := false }
def FnExactProvedCostSaid : Prop := fnExactProvedCostRow.holds Try.pinned (OpenSpec.ofChange fnExactProvedCostSpec)

/-- ITS FALSE NEIGHBOUR: 'it returns false'. Refute it at one input. -/
def fnExactProvedCostWrong : ChangeSpec := { name := "fnExactProvedCost", fn := fun _ => fun
  | [d1, d2, d3] => { results := [.lit (.bool false)], args := [d1, d2, d3] }
  | _ => none }
def FnExactProvedCostWrongFalsely : Prop := fnExactProvedCostRow.holds Try.pinned (OpenSpec.ofChange fnExactProvedCostWrong)

/-- 'laws.FnExactSortBooks': WHATEVER THE INPUT: true; the input reads as it did. -/
def fnExactSortBooksSpec : ChangeSpec := { name := "fnExactSortBooks", fn := fun _ => fun
  | [d1, d2] => { results := [.lit (.bool true)], args := [d1, d2] }
  | _ => none }
def fnExactSortBooksRow : OpenClaim := { program := "ytdkdchhkfachmab", sum := "5e689814f62a3e299dd562892e9339708fdff1922e9b8c69365169266685fb45", func := "loop.example/g01326/laws.FnExactSortBooks", spec := "fnExactSortBooks", unfollowed := true, recurses := true, plainKeys := false, apart := false }
def FnExactSortBooksSaid : Prop := fnExactSortBooksRow.holds Try.pinned (OpenSpec.ofChange fnExactSortBooksSpec)

/-- ITS FALSE NEIGHBOUR: 'it returns false'. Refute it at one input. -/
def fnExactSortBooksWrong : ChangeSpec := { name := "fnExactSortBooks", fn := fun _ => fun
  | [d1, d2] => { results := [.lit (.bool false)], args := [d1, d2] }
  | _ => none }
def FnExactSortBooksWrongFalsely : Prop := fnExactSortBooksRow.holds Try.pinned (OpenSpec.ofChange fnExactSortBooksWrong)

/-- 'laws.FnExactPairsOut': WHATEVER THE INPUT: true; the input reads as it did. -/
def fnExactPairsOutSpec : ChangeSpec := { name := "fnExactPairsOut", fn := fun _ => fun
  | [d] => { results := [.lit (.bool true)], args := [d] }
  | _ => none }
def fnExactPairsOutRow : OpenClaim := { program := "ytdkdchhkfachmab", sum := "5e689814f62a3e299dd562892e9339708fdff1922e9b8c69365169266685fb45", func := "loop.example/g01326/laws.FnExactPairsOut", spec := "fnExactPairsOut", unfollowed := true, recurses := true, plainKeys := false, apart := false }
def FnExactPairsOutSaid : Prop := fnExactPairsOutRow.holds Try.pinned (OpenSpec.ofChange fnExactPairsOutSpec)

/-- ITS FALSE NEIGHBOUR: 'it returns false'. Refute it at one input. -/
def fnExactPairsOutWrong : ChangeSpec := { name := "fnExactPairsOut", fn := fun _ => fun
  | [d] => { results := [.lit (.bool false)], args := [d] }
  | _ => none }
def FnExactPairsOutWrongFalsely : Prop := fnExactPairsOutRow.holds Try.pinned (OpenSpec.ofChange fnExactPairsOutWrong)

/- THE SECOND FORM. 'bulk': how many values and letters a reading holds, each counted each time it is reached (what is shared counts as often as it is met; a slice's spare places count too). A statement '..UptoSaid' is the law's where the arguments, and the package variables that the reading takes, are together of bulk at most 1048576: NARROWER than '..Said'. Prove '..Said' where nothing that the law and all that it calls make is longer than what came in: it says more and counts as full. Else prove '..UptoSaid'. A law counts once. -/
mutual
def uptoBulk {H : Type} : DataW H → Nat
  | .lit (.string bytes) => bytes.length + 1
  | .lit _ => 1
  | .nil => 1
  | .ptr d => uptoBulk d + 1
  | .slice elems spare => uptoBulkAll elems + uptoBulkAll spare + 1
  | .agg parts => uptoBulkAll parts + 1
  | .iface _ d => uptoBulk d + 1
  | .map entries => uptoBulkEntries entries + 1
  | .held _ => 1
def uptoBulkAll {H : Type} : List (DataW H) → Nat
  | [] => 0
  | d :: r => uptoBulk d + uptoBulkAll r
def uptoBulkEntries {H : Type} : List (Lit × DataW H) → Nat
  | [] => 0
  | x :: r => uptoBulkEntry x + uptoBulkEntries r
def uptoBulkEntry {H : Type} : Lit × DataW H → Nat
  | (.string bytes, d) => bytes.length + uptoBulk d + 1
  | (_, d) => uptoBulk d + 1
 end
def uptoSmall : (H : Type) → List (DataW H) → Bool := fun _ ds => decide (uptoBulkAll ds ≤ 1048576)
def OpenSpec.upto (s : _root_.Go.ChangeSpec) : _root_.Go.OpenSpec := { _root_.Go.OpenSpec.ofChange s with cond := some uptoSmall }

/-- 'laws.FnExactMovedBooks', WHERE WHAT IT READS IS OF BULK AT MOST 1048576: true; the input reads as it did. -/
def fnExactMovedBooksUptoRow : OpenClaim := { program := "ytdkdchhkfachmab", sum := "5e689814f62a3e299dd562892e9339708fdff1922e9b8c69365169266685fb45", func := "loop.example/g01326/laws.FnExactMovedBooks", spec := "fnExactMovedBooks", plainKeys := false, apart := false, narrowed := true }
def FnExactMovedBooksUptoSaid : Prop := fnExactMovedBooksUptoRow.holds Try.pinned (OpenSpec.upto fnExactMovedBooksSpec)

/-- 'laws.FnExactFewestShelves', WHERE WHAT IT READS IS OF BULK AT MOST 1048576: true; the input reads as it did. -/
def fnExactFewestShelvesUptoRow : OpenClaim := { program := "ytdkdchhkfachmab", sum := "5e689814f62a3e299dd562892e9339708fdff1922e9b8c69365169266685fb45", func := "loop.example/g01326/laws.FnExactFewestShelves", spec := "fnExactFewestShelves", unfollowed := true, recurses := true, plainKeys := false, apart := false, narrowed := true }
def FnExactFewestShelvesUptoSaid : Prop := fnExactFewestShelvesUptoRow.holds Try.pinned (OpenSpec.upto fnExactFewestShelvesSpec)

/-- 'laws.FnExactLeastCost', WHERE WHAT IT READS IS OF BULK AT MOST 1048576: true; the input reads as it did. -/
def fnExactLeastCostUptoRow : OpenClaim := { program := "ytdkdchhkfachmab", sum := "5e689814f62a3e299dd562892e9339708fdff1922e9b8c69365169266685fb45", func := "loop.example/g01326/laws.FnExactLeastCost", spec := "fnExactLeastCost", unfollowed := true, recurses := true, plainKeys := false, apart := false, narrowed := true }
def FnExactLeastCostUptoSaid : Prop := fnExactLeastCostUptoRow.holds Try.pinned (OpenSpec.upto fnExactLeastCostSpec)

/-- 'laws.FnExactTableOf', WHERE WHAT IT READS IS OF BULK AT MOST 1048576: true; the input reads as it did. -/
def fnExactTableOfUptoRow : OpenClaim := { program := "ytdkdchhkfachmab", sum := "5e689814f62a3e299dd562892e9339708fdff1922e9b8c69365169266685fb45", func := "loop.example/g01326/laws.FnExactTableOf", spec := "fnExactTableOf", unfollowed := true, recurses := true, plainKeys := false, apart := false, narrowed := true }
def FnExactTableOfUptoSaid : Prop := fnExactTableOfUptoRow.holds Try.pinned (OpenSpec.upto fnExactTableOfSpec)

/-- 'laws.FnExactCheckTable', WHERE WHAT IT READS IS OF BULK AT MOST 1048576: true; the input reads as it did. -/
def fnExactCheckTableUptoRow : OpenClaim := { program := "ytdkdchhkfachmab", sum := "5e689814f62a3e299dd562892e9339708fdff1922e9b8c69365169266685fb45", func := "loop.example/g01326/laws.FnExactCheckTable", spec := "fnExactCheckTable", unfollowed := true, recurses := true, plainKeys := false, apart := false, narrowed := true }
def FnExactCheckTableUptoSaid : Prop := fnExactCheckTableUptoRow.holds Try.pinned (OpenSpec.upto fnExactCheckTableSpec)

/-- 'laws.FnExactProvedCost', WHERE WHAT IT READS IS OF BULK AT MOST 1048576: true; the input reads as it did. -/
def fnExactProvedCostUptoRow : OpenClaim := { program := "ytdkdchhkfachmab", sum := "5e689814f62a3e299dd562892e9339708fdff1922e9b8c69365169266685fb45", func := "loop.example/g01326/laws.FnExactProvedCost", spec := "fnExactProvedCost", unfollowed := true, recurses := true, plainKeys := false, apart := false, narrowed := true }
def FnExactProvedCostUptoSaid : Prop := fnExactProvedCostUptoRow.holds Try.pinned (OpenSpec.upto fnExactProvedCostSpec)

/-- 'laws.FnExactSortBooks', WHERE WHAT IT READS IS OF BULK AT MOST 1048576: true; the input reads as it did. -/
def fnExactSortBooksUptoRow : OpenClaim := { program := "ytdkdchhkfachmab", sum := "5e689814f62a3e299dd562892e9339708fdff1922e9b8c69365169266685fb45", func := "loop.example/g01326/laws.FnExactSortBooks", spec := "fnExactSortBooks", unfollowed := true, recurses := true, plainKeys := false, apart := false, narrowed := true }
def FnExactSortBooksUptoSaid : Prop := fnExactSortBooksUptoRow.holds Try.pinned (OpenSpec.upto fnExactSortBooksSpec)

/-- 'laws.FnExactPairsOut', WHERE WHAT IT READS IS OF BULK AT MOST 1048576: true; the input reads as it did. -/
def fnExactPairsOutUptoRow : OpenClaim := { program := "ytdkdchhkfachmab", sum := "5e689814f62a3e299dd562892e9339708fdff1922e9b8c69365169266685fb45", func := "loop.example/g01326/laws.FnExactPairsOut", spec := "fnExactPairsOut", unfollowed := true, recurses := true, plainKeys := false, apart := false, narrowed := true }
def FnExactPairsOutUptoSaid : Prop := fnExactPairsOutUptoRow.holds Try.pinned (OpenSpec.upto fnExactPairsOutSpec)

end Rows
end Go.Proofs.Ytdkdchhkfachmab
