/-
  No cell of these rows narrows 'for every input' (looked for: loops, veiled, ifaces, maps, wideKeys, modest, calm, conditions, laid).
  DERIVED. THE GIVEN ROWS OF THIS SEAT. 12 by the template 'for every input the law returns true; each argument reads behind the call as it read before'; 0 by the template 'total and deterministic' (their statements: YtonclaakaaidlaaTotals.lean).
  GIVEN WITH THE SEED: the statements are not yours to turn. If you find one false, say at which input.
  Laid BY PROGRAM, IN A SANDBOX (cutbox-rows.mjs): the forced cells as the released guide's own fill.sh prints them over the translation 5dfad744f5f0ad21… (all of the seat's roots in one cut). By AI agents, Wed Nov 11 2026. No macro, syntax, notation, axiom, sorry.
-/
import Derived.Test.YtonclaakaaidlaaChecked
import GoSem.Claim
import GoSem.ClaimJoined
import GoSem.ClaimMapViews
import Derived.JoinedTies
import Derived.KernelRfl
namespace Go.Proofs.Ytonclaakaaidlaa
/- THE CELL 'sum', in the pinned program and in every row, IS THE sha256 OF THE DUMP (.gsa) THAT YtonclaakaaidlaaProg.lean LOADS. Nothing in Lean hashes anything: it is a label: what it is worth is what the hold of that sum in a sandbox is worth. -/
noncomputable def Try.pinned : Pinned := { name := "ytonclaakaaidlaa", sum := "5dfad744f5f0ad214da7de5e626bc56d8388c44767eb60b5dba78cfbc8d34446", checked := Try.checked }
namespace Rows
def none {H : Type} : Left H := { results := [], args := [] }

/-- 'laws.FnExactLabelsOf': WHATEVER THE INPUT: true; the input reads as it did. -/
def fnExactLabelsOfSpec : ChangeSpec := { name := "fnExactLabelsOf", fn := fun _ => fun
  | [d] => { results := [.lit (.bool true)], args := [d] }
  | _ => none }
def fnExactLabelsOfRow : OpenClaim := { program := "ytonclaakaaidlaa", sum := "5dfad744f5f0ad214da7de5e626bc56d8388c44767eb60b5dba78cfbc8d34446", func := "loop.example/g01326/laws.FnExactLabelsOf", spec := "fnExactLabelsOf", unfollowed := true, recurses := true, apart := false }
def FnExactLabelsOfSaid : Prop := fnExactLabelsOfRow.holds Try.pinned (OpenSpec.ofChange fnExactLabelsOfSpec)

/-- ITS FALSE NEIGHBOUR: 'it returns false'. Refute it at one input. -/
def fnExactLabelsOfWrong : ChangeSpec := { name := "fnExactLabelsOf", fn := fun _ => fun
  | [d] => { results := [.lit (.bool false)], args := [d] }
  | _ => none }
def FnExactLabelsOfWrongFalsely : Prop := fnExactLabelsOfRow.holds Try.pinned (OpenSpec.ofChange fnExactLabelsOfWrong)

/-- 'laws.FnExactKeptBooks': WHATEVER THE INPUT: true; the input reads as it did. -/
def fnExactKeptBooksSpec : ChangeSpec := { name := "fnExactKeptBooks", fn := fun _ => fun
  | [d] => { results := [.lit (.bool true)], args := [d] }
  | _ => none }
def fnExactKeptBooksRow : OpenClaim := { program := "ytonclaakaaidlaa", sum := "5dfad744f5f0ad214da7de5e626bc56d8388c44767eb60b5dba78cfbc8d34446", func := "loop.example/g01326/laws.FnExactKeptBooks", spec := "fnExactKeptBooks", unfollowed := true, recurses := true, apart := false }
def FnExactKeptBooksSaid : Prop := fnExactKeptBooksRow.holds Try.pinned (OpenSpec.ofChange fnExactKeptBooksSpec)

/-- ITS FALSE NEIGHBOUR: 'it returns false'. Refute it at one input. -/
def fnExactKeptBooksWrong : ChangeSpec := { name := "fnExactKeptBooks", fn := fun _ => fun
  | [d] => { results := [.lit (.bool false)], args := [d] }
  | _ => none }
def FnExactKeptBooksWrongFalsely : Prop := fnExactKeptBooksRow.holds Try.pinned (OpenSpec.ofChange fnExactKeptBooksWrong)

/-- 'laws.FnExactLeastMoves': WHATEVER THE INPUT: true; the input reads as it did. -/
def fnExactLeastMovesSpec : ChangeSpec := { name := "fnExactLeastMoves", fn := fun _ => fun
  | [d] => { results := [.lit (.bool true)], args := [d] }
  | _ => none }
def fnExactLeastMovesRow : OpenClaim := { program := "ytonclaakaaidlaa", sum := "5dfad744f5f0ad214da7de5e626bc56d8388c44767eb60b5dba78cfbc8d34446", func := "loop.example/g01326/laws.FnExactLeastMoves", spec := "fnExactLeastMoves", unfollowed := true, recurses := true, apart := false }
def FnExactLeastMovesSaid : Prop := fnExactLeastMovesRow.holds Try.pinned (OpenSpec.ofChange fnExactLeastMovesSpec)

/-- ITS FALSE NEIGHBOUR: 'it returns false'. Refute it at one input. -/
def fnExactLeastMovesWrong : ChangeSpec := { name := "fnExactLeastMoves", fn := fun _ => fun
  | [d] => { results := [.lit (.bool false)], args := [d] }
  | _ => none }
def FnExactLeastMovesWrongFalsely : Prop := fnExactLeastMovesRow.holds Try.pinned (OpenSpec.ofChange fnExactLeastMovesWrong)

/-- 'laws.FnExactSwapAll': WHATEVER THE INPUT: true; the input reads as it did. -/
def fnExactSwapAllSpec : ChangeSpec := { name := "fnExactSwapAll", fn := fun _ => fun
  | [d1, d2] => { results := [.lit (.bool true)], args := [d1, d2] }
  | _ => none }
def fnExactSwapAllRow : OpenClaim := { program := "ytonclaakaaidlaa", sum := "5dfad744f5f0ad214da7de5e626bc56d8388c44767eb60b5dba78cfbc8d34446", func := "loop.example/g01326/laws.FnExactSwapAll", spec := "fnExactSwapAll", apart := false }
def FnExactSwapAllSaid : Prop := fnExactSwapAllRow.holds Try.pinned (OpenSpec.ofChange fnExactSwapAllSpec)

/-- ITS FALSE NEIGHBOUR: 'it returns false'. Refute it at one input. -/
def fnExactSwapAllWrong : ChangeSpec := { name := "fnExactSwapAll", fn := fun _ => fun
  | [d1, d2] => { results := [.lit (.bool false)], args := [d1, d2] }
  | _ => none }
def FnExactSwapAllWrongFalsely : Prop := fnExactSwapAllRow.holds Try.pinned (OpenSpec.ofChange fnExactSwapAllWrong)

/-- 'laws.FnExactTableOf': WHATEVER THE INPUT: true; the input reads as it did. -/
def fnExactTableOfSpec : ChangeSpec := { name := "fnExactTableOf", fn := fun _ => fun
  | [d1, d2] => { results := [.lit (.bool true)], args := [d1, d2] }
  | _ => none }
def fnExactTableOfRow : OpenClaim := { program := "ytonclaakaaidlaa", sum := "5dfad744f5f0ad214da7de5e626bc56d8388c44767eb60b5dba78cfbc8d34446", func := "loop.example/g01326/laws.FnExactTableOf", spec := "fnExactTableOf", unfollowed := true, recurses := true, apart := false }
def FnExactTableOfSaid : Prop := fnExactTableOfRow.holds Try.pinned (OpenSpec.ofChange fnExactTableOfSpec)

/-- ITS FALSE NEIGHBOUR: 'it returns false'. Refute it at one input. -/
def fnExactTableOfWrong : ChangeSpec := { name := "fnExactTableOf", fn := fun _ => fun
  | [d1, d2] => { results := [.lit (.bool false)], args := [d1, d2] }
  | _ => none }
def FnExactTableOfWrongFalsely : Prop := fnExactTableOfRow.holds Try.pinned (OpenSpec.ofChange fnExactTableOfWrong)

/-- 'laws.FnExactLeastCost': WHATEVER THE INPUT: true; the input reads as it did. -/
def fnExactLeastCostSpec : ChangeSpec := { name := "fnExactLeastCost", fn := fun _ => fun
  | [d1, d2] => { results := [.lit (.bool true)], args := [d1, d2] }
  | _ => none }
def fnExactLeastCostRow : OpenClaim := { program := "ytonclaakaaidlaa", sum := "5dfad744f5f0ad214da7de5e626bc56d8388c44767eb60b5dba78cfbc8d34446", func := "loop.example/g01326/laws.FnExactLeastCost", spec := "fnExactLeastCost", unfollowed := true, recurses := true, apart := false }
def FnExactLeastCostSaid : Prop := fnExactLeastCostRow.holds Try.pinned (OpenSpec.ofChange fnExactLeastCostSpec)

/-- ITS FALSE NEIGHBOUR: 'it returns false'. Refute it at one input. -/
def fnExactLeastCostWrong : ChangeSpec := { name := "fnExactLeastCost", fn := fun _ => fun
  | [d1, d2] => { results := [.lit (.bool false)], args := [d1, d2] }
  | _ => none }
def FnExactLeastCostWrongFalsely : Prop := fnExactLeastCostRow.holds Try.pinned (OpenSpec.ofChange fnExactLeastCostWrong)

/-- 'laws.FnExactFewestShelves': WHATEVER THE INPUT: true; the input reads as it did. -/
def fnExactFewestShelvesSpec : ChangeSpec := { name := "fnExactFewestShelves", fn := fun _ => fun
  | [d1, d2] => { results := [.lit (.bool true)], args := [d1, d2] }
  | _ => none }
def fnExactFewestShelvesRow : OpenClaim := { program := "ytonclaakaaidlaa", sum := "5dfad744f5f0ad214da7de5e626bc56d8388c44767eb60b5dba78cfbc8d34446", func := "loop.example/g01326/laws.FnExactFewestShelves", spec := "fnExactFewestShelves", unfollowed := true, recurses := true, apart := false }
def FnExactFewestShelvesSaid : Prop := fnExactFewestShelvesRow.holds Try.pinned (OpenSpec.ofChange fnExactFewestShelvesSpec)

/-- ITS FALSE NEIGHBOUR: 'it returns false'. Refute it at one input. -/
def fnExactFewestShelvesWrong : ChangeSpec := { name := "fnExactFewestShelves", fn := fun _ => fun
  | [d1, d2] => { results := [.lit (.bool false)], args := [d1, d2] }
  | _ => none }
def FnExactFewestShelvesWrongFalsely : Prop := fnExactFewestShelvesRow.holds Try.pinned (OpenSpec.ofChange fnExactFewestShelvesWrong)

/-- 'laws.FnExactCheckTable': WHATEVER THE INPUT: true; the input reads as it did. -/
def fnExactCheckTableSpec : ChangeSpec := { name := "fnExactCheckTable", fn := fun _ => fun
  | [d1, d2, d3] => { results := [.lit (.bool true)], args := [d1, d2, d3] }
  | _ => none }
def fnExactCheckTableRow : OpenClaim := { program := "ytonclaakaaidlaa", sum := "5dfad744f5f0ad214da7de5e626bc56d8388c44767eb60b5dba78cfbc8d34446", func := "loop.example/g01326/laws.FnExactCheckTable", spec := "fnExactCheckTable", unfollowed := true, recurses := true, apart := false }
def FnExactCheckTableSaid : Prop := fnExactCheckTableRow.holds Try.pinned (OpenSpec.ofChange fnExactCheckTableSpec)

/-- ITS FALSE NEIGHBOUR: 'it returns false'. Refute it at one input. -/
def fnExactCheckTableWrong : ChangeSpec := { name := "fnExactCheckTable", fn := fun _ => fun
  | [d1, d2, d3] => { results := [.lit (.bool false)], args := [d1, d2, d3] }
  | _ => none }
def FnExactCheckTableWrongFalsely : Prop := fnExactCheckTableRow.holds Try.pinned (OpenSpec.ofChange fnExactCheckTableWrong)

/-- 'laws.FnExactProvedCost': WHATEVER THE INPUT: true; the input reads as it did. -/
def fnExactProvedCostSpec : ChangeSpec := { name := "fnExactProvedCost", fn := fun _ => fun
  | [d1, d2, d3] => { results := [.lit (.bool true)], args := [d1, d2, d3] }
  | _ => none }
def fnExactProvedCostRow : OpenClaim := { program := "ytonclaakaaidlaa", sum := "5dfad744f5f0ad214da7de5e626bc56d8388c44767eb60b5dba78cfbc8d34446", func := "loop.example/g01326/laws.FnExactProvedCost", spec := "fnExactProvedCost", unfollowed := true, recurses := true, apart := false }
def FnExactProvedCostSaid : Prop := fnExactProvedCostRow.holds Try.pinned (OpenSpec.ofChange fnExactProvedCostSpec)

/-- ITS FALSE NEIGHBOUR: 'it returns false'. Refute it at one input. -/
def fnExactProvedCostWrong : ChangeSpec := { name := "fnExactProvedCost", fn := fun _ => fun
  | [d1, d2, d3] => { results := [.lit (.bool false)], args := [d1, d2, d3] }
  | _ => none }
def FnExactProvedCostWrongFalsely : Prop := fnExactProvedCostRow.holds Try.pinned (OpenSpec.ofChange fnExactProvedCostWrong)

/-- 'laws.FnExactMoveBook': WHATEVER THE INPUT: true; the input reads as it did. -/
def fnExactMoveBookSpec : ChangeSpec := { name := "fnExactMoveBook", fn := fun _ => fun
  | [d1, d2] => { results := [.lit (.bool true)], args := [d1, d2] }
  | _ => none }
def fnExactMoveBookRow : OpenClaim := { program := "ytonclaakaaidlaa", sum := "5dfad744f5f0ad214da7de5e626bc56d8388c44767eb60b5dba78cfbc8d34446", func := "loop.example/g01326/laws.FnExactMoveBook", spec := "fnExactMoveBook", unfollowed := true, recurses := true, apart := false }
def FnExactMoveBookSaid : Prop := fnExactMoveBookRow.holds Try.pinned (OpenSpec.ofChange fnExactMoveBookSpec)

/-- ITS FALSE NEIGHBOUR: 'it returns false'. Refute it at one input. -/
def fnExactMoveBookWrong : ChangeSpec := { name := "fnExactMoveBook", fn := fun _ => fun
  | [d1, d2] => { results := [.lit (.bool false)], args := [d1, d2] }
  | _ => none }
def FnExactMoveBookWrongFalsely : Prop := fnExactMoveBookRow.holds Try.pinned (OpenSpec.ofChange fnExactMoveBookWrong)

/-- 'laws.FnExactMoveBlock': WHATEVER THE INPUT: true; the input reads as it did. -/
def fnExactMoveBlockSpec : ChangeSpec := { name := "fnExactMoveBlock", fn := fun _ => fun
  | [d1, d2] => { results := [.lit (.bool true)], args := [d1, d2] }
  | _ => none }
def fnExactMoveBlockRow : OpenClaim := { program := "ytonclaakaaidlaa", sum := "5dfad744f5f0ad214da7de5e626bc56d8388c44767eb60b5dba78cfbc8d34446", func := "loop.example/g01326/laws.FnExactMoveBlock", spec := "fnExactMoveBlock", unfollowed := true, recurses := true, apart := false }
def FnExactMoveBlockSaid : Prop := fnExactMoveBlockRow.holds Try.pinned (OpenSpec.ofChange fnExactMoveBlockSpec)

/-- ITS FALSE NEIGHBOUR: 'it returns false'. Refute it at one input. -/
def fnExactMoveBlockWrong : ChangeSpec := { name := "fnExactMoveBlock", fn := fun _ => fun
  | [d1, d2] => { results := [.lit (.bool false)], args := [d1, d2] }
  | _ => none }
def FnExactMoveBlockWrongFalsely : Prop := fnExactMoveBlockRow.holds Try.pinned (OpenSpec.ofChange fnExactMoveBlockWrong)

/-- 'laws.FnExactMoveAll': WHATEVER THE INPUT: true; the input reads as it did. -/
def fnExactMoveAllSpec : ChangeSpec := { name := "fnExactMoveAll", fn := fun _ => fun
  | [d1, d2] => { results := [.lit (.bool true)], args := [d1, d2] }
  | _ => none }
def fnExactMoveAllRow : OpenClaim := { program := "ytonclaakaaidlaa", sum := "5dfad744f5f0ad214da7de5e626bc56d8388c44767eb60b5dba78cfbc8d34446", func := "loop.example/g01326/laws.FnExactMoveAll", spec := "fnExactMoveAll", unfollowed := true, recurses := true, apart := false }
def FnExactMoveAllSaid : Prop := fnExactMoveAllRow.holds Try.pinned (OpenSpec.ofChange fnExactMoveAllSpec)

/-- ITS FALSE NEIGHBOUR: 'it returns false'. Refute it at one input. -/
def fnExactMoveAllWrong : ChangeSpec := { name := "fnExactMoveAll", fn := fun _ => fun
  | [d1, d2] => { results := [.lit (.bool false)], args := [d1, d2] }
  | _ => none }
def FnExactMoveAllWrongFalsely : Prop := fnExactMoveAllRow.holds Try.pinned (OpenSpec.ofChange fnExactMoveAllWrong)

/- THE SECOND FORM. 'bulk': how many values and letters a reading holds, each counted each time it is reached (what is shared counts as often as it is met; a slice's spare places count too). A statement '..UptoSaid' is the law's where the arguments, and the package variables that the reading takes, are together of bulk at most 1048576: NARROWER than '..Said'. Prove '..Said' where nothing that the law and all that it calls make is longer than what came in: it says more and counts as full. Else prove '..UptoSaid'. A law counts once. -/
mutual
def uptoBulk {H : Type} : DataW H → Nat
  | .lit (.string bytes) => bytes.length + 1
  | .lit _ => 1
  | .nil => 1
  | .ptr d => uptoBulk d + 1
  | .slice elems spare => uptoBulkAll elems + uptoBulkAll spare + 1
  | .agg parts => uptoBulkAll parts + 1
  | .iface _ d => uptoBulk d + 1
  | .map entries => uptoBulkEntries entries + 1
  | .held _ => 1
def uptoBulkAll {H : Type} : List (DataW H) → Nat
  | [] => 0
  | d :: r => uptoBulk d + uptoBulkAll r
def uptoBulkEntries {H : Type} : List (Lit × DataW H) → Nat
  | [] => 0
  | x :: r => uptoBulkEntry x + uptoBulkEntries r
def uptoBulkEntry {H : Type} : Lit × DataW H → Nat
  | (.string bytes, d) => bytes.length + uptoBulk d + 1
  | (_, d) => uptoBulk d + 1
 end
def uptoSmall : (H : Type) → List (DataW H) → Bool := fun _ ds => decide (uptoBulkAll ds ≤ 1048576)
def OpenSpec.upto (s : _root_.Go.ChangeSpec) : _root_.Go.OpenSpec := { _root_.Go.OpenSpec.ofChange s with cond := some uptoSmall }

/-- 'laws.FnExactLabelsOf', WHERE WHAT IT READS IS OF BULK AT MOST 1048576: true; the input reads as it did. -/
def fnExactLabelsOfUptoRow : OpenClaim := { program := "ytonclaakaaidlaa", sum := "5dfad744f5f0ad214da7de5e626bc56d8388c44767eb60b5dba78cfbc8d34446", func := "loop.example/g01326/laws.FnExactLabelsOf", spec := "fnExactLabelsOf", unfollowed := true, recurses := true, apart := false, narrowed := true }
def FnExactLabelsOfUptoSaid : Prop := fnExactLabelsOfUptoRow.holds Try.pinned (OpenSpec.upto fnExactLabelsOfSpec)

/-- 'laws.FnExactKeptBooks', WHERE WHAT IT READS IS OF BULK AT MOST 1048576: true; the input reads as it did. -/
def fnExactKeptBooksUptoRow : OpenClaim := { program := "ytonclaakaaidlaa", sum := "5dfad744f5f0ad214da7de5e626bc56d8388c44767eb60b5dba78cfbc8d34446", func := "loop.example/g01326/laws.FnExactKeptBooks", spec := "fnExactKeptBooks", unfollowed := true, recurses := true, apart := false, narrowed := true }
def FnExactKeptBooksUptoSaid : Prop := fnExactKeptBooksUptoRow.holds Try.pinned (OpenSpec.upto fnExactKeptBooksSpec)

/-- 'laws.FnExactLeastMoves', WHERE WHAT IT READS IS OF BULK AT MOST 1048576: true; the input reads as it did. -/
def fnExactLeastMovesUptoRow : OpenClaim := { program := "ytonclaakaaidlaa", sum := "5dfad744f5f0ad214da7de5e626bc56d8388c44767eb60b5dba78cfbc8d34446", func := "loop.example/g01326/laws.FnExactLeastMoves", spec := "fnExactLeastMoves", unfollowed := true, recurses := true, apart := false, narrowed := true }
def FnExactLeastMovesUptoSaid : Prop := fnExactLeastMovesUptoRow.holds Try.pinned (OpenSpec.upto fnExactLeastMovesSpec)

/-- 'laws.FnExactSwapAll', WHERE WHAT IT READS IS OF BULK AT MOST 1048576: true; the input reads as it did. -/
def fnExactSwapAllUptoRow : OpenClaim := { program := "ytonclaakaaidlaa", sum := "5dfad744f5f0ad214da7de5e626bc56d8388c44767eb60b5dba78cfbc8d34446", func := "loop.example/g01326/laws.FnExactSwapAll", spec := "fnExactSwapAll", apart := false, narrowed := true }
def FnExactSwapAllUptoSaid : Prop := fnExactSwapAllUptoRow.holds Try.pinned (OpenSpec.upto fnExactSwapAllSpec)

/-- 'laws.FnExactTableOf', WHERE WHAT IT READS IS OF BULK AT MOST 1048576: true; the input reads as it did. -/
def fnExactTableOfUptoRow : OpenClaim := { program := "ytonclaakaaidlaa", sum := "5dfad744f5f0ad214da7de5e626bc56d8388c44767eb60b5dba78cfbc8d34446", func := "loop.example/g01326/laws.FnExactTableOf", spec := "fnExactTableOf", unfollowed := true, recurses := true, apart := false, narrowed := true }
def FnExactTableOfUptoSaid : Prop := fnExactTableOfUptoRow.holds Try.pinned (OpenSpec.upto fnExactTableOfSpec)

/-- 'laws.FnExactLeastCost', WHERE WHAT IT READS IS OF BULK AT MOST 1048576: true; the input reads as it did. -/
def fnExactLeastCostUptoRow : OpenClaim := { program := "ytonclaakaaidlaa", sum := "5dfad744f5f0ad214da7de5e626bc56d8388c44767eb60b5dba78cfbc8d34446", func := "loop.example/g01326/laws.FnExactLeastCost", spec := "fnExactLeastCost", unfollowed := true, recurses := true, apart := false, narrowed := true }
def FnExactLeastCostUptoSaid : Prop := fnExactLeastCostUptoRow.holds Try.pinned (OpenSpec.upto fnExactLeastCostSpec)

/-- 'laws.FnExactFewestShelves', WHERE WHAT IT READS IS OF BULK AT MOST 1048576: true; the input reads as it did. -/
def fnExactFewestShelvesUptoRow : OpenClaim := { program := "ytonclaakaaidlaa", sum := "5dfad744f5f0ad214da7de5e626bc56d8388c44767eb60b5dba78cfbc8d34446", func := "loop.example/g01326/laws.FnExactFewestShelves", spec := "fnExactFewestShelves", unfollowed := true, recurses := true, apart := false, narrowed := true }
def FnExactFewestShelvesUptoSaid : Prop := fnExactFewestShelvesUptoRow.holds Try.pinned (OpenSpec.upto fnExactFewestShelvesSpec)

/-- 'laws.FnExactCheckTable', WHERE WHAT IT READS IS OF BULK AT MOST 1048576: true; the input reads as it did. -/
def fnExactCheckTableUptoRow : OpenClaim := { program := "ytonclaakaaidlaa", sum := "5dfad744f5f0ad214da7de5e626bc56d8388c44767eb60b5dba78cfbc8d34446", func := "loop.example/g01326/laws.FnExactCheckTable", spec := "fnExactCheckTable", unfollowed := true, recurses := true, apart := false, narrowed := true }
def FnExactCheckTableUptoSaid : Prop := fnExactCheckTableUptoRow.holds Try.pinned (OpenSpec.upto fnExactCheckTableSpec)

/-- 'laws.FnExactProvedCost', WHERE WHAT IT READS IS OF BULK AT MOST 1048576: true; the input reads as it did. -/
def fnExactProvedCostUptoRow : OpenClaim := { program := "ytonclaakaaidlaa", sum := "5dfad744f5f0ad214da7de5e626bc56d8388c44767eb60b5dba78cfbc8d34446", func := "loop.example/g01326/laws.FnExactProvedCost", spec := "fnExactProvedCost", unfollowed := true, recurses := true, apart := false, narrowed := true }
def FnExactProvedCostUptoSaid : Prop := fnExactProvedCostUptoRow.holds Try.pinned (OpenSpec.upto fnExactProvedCostSpec)

/-- 'laws.FnExactMoveBook', WHERE WHAT IT READS IS OF BULK AT MOST 1048576: true; the input reads as it did. -/
def fnExactMoveBookUptoRow : OpenClaim := { program := "ytonclaakaaidlaa", sum := "5dfad744f5f0ad214da7de5e626bc56d8388c44767eb60b5dba78cfbc8d34446", func := "loop.example/g01326/laws.FnExactMoveBook", spec := "fnExactMoveBook", unfollowed := true, recurses := true, apart := false, narrowed := true }
def FnExactMoveBookUptoSaid : Prop := fnExactMoveBookUptoRow.holds Try.pinned (OpenSpec.upto fnExactMoveBookSpec)

/-- 'laws.FnExactMoveBlock', WHERE WHAT IT READS IS OF BULK AT MOST 1048576: true; the input reads as it did. -/
def fnExactMoveBlockUptoRow : OpenClaim := { program := "ytonclaakaaidlaa", sum := "5dfad744f5f0ad214da7de5e626bc56d8388c44767eb60b5dba78cfbc8d34446", func := "loop.example/g01326/laws.FnExactMoveBlock", spec := "fnExactMoveBlock", unfollowed := true, recurses := true, apart := false, narrowed := true }
def FnExactMoveBlockUptoSaid : Prop := fnExactMoveBlockUptoRow.holds Try.pinned (OpenSpec.upto fnExactMoveBlockSpec)

/-- 'laws.FnExactMoveAll', WHERE WHAT IT READS IS OF BULK AT MOST 1048576: true; the input reads as it did. -/
def fnExactMoveAllUptoRow : OpenClaim := { program := "ytonclaakaaidlaa", sum := "5dfad744f5f0ad214da7de5e626bc56d8388c44767eb60b5dba78cfbc8d34446", func := "loop.example/g01326/laws.FnExactMoveAll", spec := "fnExactMoveAll", unfollowed := true, recurses := true, apart := false, narrowed := true }
def FnExactMoveAllUptoSaid : Prop := fnExactMoveAllUptoRow.holds Try.pinned (OpenSpec.upto fnExactMoveAllSpec)

end Rows
end Go.Proofs.Ytonclaakaaidlaa
