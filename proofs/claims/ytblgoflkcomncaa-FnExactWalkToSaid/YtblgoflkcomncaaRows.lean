/-
  No cell of these rows narrows 'for every input' (looked for: loops, veiled, ifaces, maps, wideKeys, modest, calm, conditions, laid).
  DERIVED. THE GIVEN ROWS OF THIS SEAT. 12 by the template 'for every input the law returns true; each argument reads behind the call as it read before'; 0 by the template 'total and deterministic' (their statements: YtblgoflkcomncaaTotals.lean).
  GIVEN WITH THE SEED: the statements are not yours to turn. If you find one false, say at which input.
  Laid BY PROGRAM, IN A SANDBOX (cutbox-rows.mjs): the forced cells as the released guide's own fill.sh prints them over the translation 87acc4f16dcb66fd… (all of the seat's roots in one cut). By AI agents, Wed Nov 11 2026. No macro, syntax, notation, axiom, sorry.
-/
import Derived.Test.YtblgoflkcomncaaChecked
import GoSem.Claim
import GoSem.ClaimJoined
import GoSem.ClaimMapViews
import Derived.JoinedTies
import Derived.KernelRfl
namespace Go.Proofs.Ytblgoflkcomncaa
/- THE CELL 'sum', in the pinned program and in every row, IS THE sha256 OF THE DUMP (.gsa) THAT YtblgoflkcomncaaProg.lean LOADS. Nothing in Lean hashes anything: it is a label: what it is worth is what the hold of that sum in a sandbox is worth. -/
noncomputable def Try.pinned : Pinned := { name := "ytblgoflkcomncaa", sum := "87acc4f16dcb66fd02589ef330eefa29113c68178a3b5f7fd17910adfc613a7a", checked := Try.checked }
namespace Rows
def none {H : Type} : Left H := { results := [], args := [] }

/-- 'laws.FnExactCaseFrom': WHATEVER THE INPUT: true; the input reads as it did. -/
def fnExactCaseFromSpec : ChangeSpec := { name := "fnExactCaseFrom", fn := fun _ => fun
  | [d1, d2, d3, d4, d5] => { results := [.lit (.bool true)], args := [d1, d2, d3, d4, d5] }
  | _ => none }
def fnExactCaseFromRow : OpenClaim := { program := "ytblgoflkcomncaa", sum := "87acc4f16dcb66fd02589ef330eefa29113c68178a3b5f7fd17910adfc613a7a", func := "loop.example/g01326/laws.FnExactCaseFrom", spec := "fnExactCaseFrom", unfollowed := true, recurses := true, plainKeys := false, apart := false }
def FnExactCaseFromSaid : Prop := fnExactCaseFromRow.holds Try.pinned (OpenSpec.ofChange fnExactCaseFromSpec)

/-- ITS FALSE NEIGHBOUR: 'it returns false'. Refute it at one input. -/
def fnExactCaseFromWrong : ChangeSpec := { name := "fnExactCaseFrom", fn := fun _ => fun
  | [d1, d2, d3, d4, d5] => { results := [.lit (.bool false)], args := [d1, d2, d3, d4, d5] }
  | _ => none }
def FnExactCaseFromWrongFalsely : Prop := fnExactCaseFromRow.holds Try.pinned (OpenSpec.ofChange fnExactCaseFromWrong)

/-- 'laws.FnExactPairsOut': WHATEVER THE INPUT: true; the input reads as it did. -/
def fnExactPairsOutSpec : ChangeSpec := { name := "fnExactPairsOut", fn := fun _ => fun
  | [d] => { results := [.lit (.bool true)], args := [d] }
  | _ => none }
def fnExactPairsOutRow : OpenClaim := { program := "ytblgoflkcomncaa", sum := "87acc4f16dcb66fd02589ef330eefa29113c68178a3b5f7fd17910adfc613a7a", func := "loop.example/g01326/laws.FnExactPairsOut", spec := "fnExactPairsOut", unfollowed := true, recurses := true, plainKeys := false, apart := false }
def FnExactPairsOutSaid : Prop := fnExactPairsOutRow.holds Try.pinned (OpenSpec.ofChange fnExactPairsOutSpec)

/-- ITS FALSE NEIGHBOUR: 'it returns false'. Refute it at one input. -/
def fnExactPairsOutWrong : ChangeSpec := { name := "fnExactPairsOut", fn := fun _ => fun
  | [d] => { results := [.lit (.bool false)], args := [d] }
  | _ => none }
def FnExactPairsOutWrongFalsely : Prop := fnExactPairsOutRow.holds Try.pinned (OpenSpec.ofChange fnExactPairsOutWrong)

/-- 'laws.FnExactMoveBook': WHATEVER THE INPUT: true; the input reads as it did. -/
def fnExactMoveBookSpec : ChangeSpec := { name := "fnExactMoveBook", fn := fun _ => fun
  | [d1, d2] => { results := [.lit (.bool true)], args := [d1, d2] }
  | _ => none }
def fnExactMoveBookRow : OpenClaim := { program := "ytblgoflkcomncaa", sum := "87acc4f16dcb66fd02589ef330eefa29113c68178a3b5f7fd17910adfc613a7a", func := "loop.example/g01326/laws.FnExactMoveBook", spec := "fnExactMoveBook", unfollowed := true, recurses := true, plainKeys := false, apart := false }
def FnExactMoveBookSaid : Prop := fnExactMoveBookRow.holds Try.pinned (OpenSpec.ofChange fnExactMoveBookSpec)

/-- ITS FALSE NEIGHBOUR: 'it returns false'. Refute it at one input. -/
def fnExactMoveBookWrong : ChangeSpec := { name := "fnExactMoveBook", fn := fun _ => fun
  | [d1, d2] => { results := [.lit (.bool false)], args := [d1, d2] }
  | _ => none }
def FnExactMoveBookWrongFalsely : Prop := fnExactMoveBookRow.holds Try.pinned (OpenSpec.ofChange fnExactMoveBookWrong)

/-- 'laws.FnExactMoveBlock': WHATEVER THE INPUT: true; the input reads as it did. -/
def fnExactMoveBlockSpec : ChangeSpec := { name := "fnExactMoveBlock", fn := fun _ => fun
  | [d1, d2] => { results := [.lit (.bool true)], args := [d1, d2] }
  | _ => none }
def fnExactMoveBlockRow : OpenClaim := { program := "ytblgoflkcomncaa", sum := "87acc4f16dcb66fd02589ef330eefa29113c68178a3b5f7fd17910adfc613a7a", func := "loop.example/g01326/laws.FnExactMoveBlock", spec := "fnExactMoveBlock", unfollowed := true, recurses := true, plainKeys := false, apart := false }
def FnExactMoveBlockSaid : Prop := fnExactMoveBlockRow.holds Try.pinned (OpenSpec.ofChange fnExactMoveBlockSpec)

/-- ITS FALSE NEIGHBOUR: 'it returns false'. Refute it at one input. -/
def fnExactMoveBlockWrong : ChangeSpec := { name := "fnExactMoveBlock", fn := fun _ => fun
  | [d1, d2] => { results := [.lit (.bool false)], args := [d1, d2] }
  | _ => none }
def FnExactMoveBlockWrongFalsely : Prop := fnExactMoveBlockRow.holds Try.pinned (OpenSpec.ofChange fnExactMoveBlockWrong)

/-- 'laws.FnExactMoveAll': WHATEVER THE INPUT: true; the input reads as it did. -/
def fnExactMoveAllSpec : ChangeSpec := { name := "fnExactMoveAll", fn := fun _ => fun
  | [d1, d2] => { results := [.lit (.bool true)], args := [d1, d2] }
  | _ => none }
def fnExactMoveAllRow : OpenClaim := { program := "ytblgoflkcomncaa", sum := "87acc4f16dcb66fd02589ef330eefa29113c68178a3b5f7fd17910adfc613a7a", func := "loop.example/g01326/laws.FnExactMoveAll", spec := "fnExactMoveAll", unfollowed := true, recurses := true, plainKeys := false, apart := false }
def FnExactMoveAllSaid : Prop := fnExactMoveAllRow.holds Try.pinned (OpenSpec.ofChange fnExactMoveAllSpec)

/-- ITS FALSE NEIGHBOUR: 'it returns false'. Refute it at one input. -/
def fnExactMoveAllWrong : ChangeSpec := { name := "fnExactMoveAll", fn := fun _ => fun
  | [d1, d2] => { results := [.lit (.bool false)], args := [d1, d2] }
  | _ => none }
def FnExactMoveAllWrongFalsely : Prop := fnExactMoveAllRow.holds Try.pinned (OpenSpec.ofChange fnExactMoveAllWrong)

/-- 'laws.FnExactSortBooks': WHATEVER THE INPUT: true; the input reads as it did. -/
def fnExactSortBooksSpec : ChangeSpec := { name := "fnExactSortBooks", fn := fun _ => fun
  | [d1, d2] => { results := [.lit (.bool true)], args := [d1, d2] }
  | _ => none }
def fnExactSortBooksRow : OpenClaim := { program := "ytblgoflkcomncaa", sum := "87acc4f16dcb66fd02589ef330eefa29113c68178a3b5f7fd17910adfc613a7a", func := "loop.example/g01326/laws.FnExactSortBooks", spec := "fnExactSortBooks", unfollowed := true, recurses := true, plainKeys := false, apart := false }
def FnExactSortBooksSaid : Prop := fnExactSortBooksRow.holds Try.pinned (OpenSpec.ofChange fnExactSortBooksSpec)

/-- ITS FALSE NEIGHBOUR: 'it returns false'. Refute it at one input. -/
def fnExactSortBooksWrong : ChangeSpec := { name := "fnExactSortBooks", fn := fun _ => fun
  | [d1, d2] => { results := [.lit (.bool false)], args := [d1, d2] }
  | _ => none }
def FnExactSortBooksWrongFalsely : Prop := fnExactSortBooksRow.holds Try.pinned (OpenSpec.ofChange fnExactSortBooksWrong)

/-- 'laws.FnExactShortestWalk': WHATEVER THE INPUT: true; the input reads as it did. -/
def fnExactShortestWalkSpec : ChangeSpec := { name := "fnExactShortestWalk", fn := fun _ => fun
  | [d1, d2] => { results := [.lit (.bool true)], args := [d1, d2] }
  | _ => none }
def fnExactShortestWalkRow : OpenClaim := { program := "ytblgoflkcomncaa", sum := "87acc4f16dcb66fd02589ef330eefa29113c68178a3b5f7fd17910adfc613a7a", func := "loop.example/g01326/laws.FnExactShortestWalk", spec := "fnExactShortestWalk", unfollowed := true, recurses := true, plainKeys := false, apart := false }
def FnExactShortestWalkSaid : Prop := fnExactShortestWalkRow.holds Try.pinned (OpenSpec.ofChange fnExactShortestWalkSpec)

/-- ITS FALSE NEIGHBOUR: 'it returns false'. Refute it at one input. -/
def fnExactShortestWalkWrong : ChangeSpec := { name := "fnExactShortestWalk", fn := fun _ => fun
  | [d1, d2] => { results := [.lit (.bool false)], args := [d1, d2] }
  | _ => none }
def FnExactShortestWalkWrongFalsely : Prop := fnExactShortestWalkRow.holds Try.pinned (OpenSpec.ofChange fnExactShortestWalkWrong)

/-- 'laws.FnExactWalkTo': WHATEVER THE INPUT: true; the input reads as it did. -/
def fnExactWalkToSpec : ChangeSpec := { name := "fnExactWalkTo", fn := fun _ => fun
  | [d1, d2] => { results := [.lit (.bool true)], args := [d1, d2] }
  | _ => none }
def fnExactWalkToRow : OpenClaim := { program := "ytblgoflkcomncaa", sum := "87acc4f16dcb66fd02589ef330eefa29113c68178a3b5f7fd17910adfc613a7a", func := "loop.example/g01326/laws.FnExactWalkTo", spec := "fnExactWalkTo", unfollowed := true, recurses := true, plainKeys := false, apart := false }
def FnExactWalkToSaid : Prop := fnExactWalkToRow.holds Try.pinned (OpenSpec.ofChange fnExactWalkToSpec)

/-- ITS FALSE NEIGHBOUR: 'it returns false'. Refute it at one input. -/
def fnExactWalkToWrong : ChangeSpec := { name := "fnExactWalkTo", fn := fun _ => fun
  | [d1, d2] => { results := [.lit (.bool false)], args := [d1, d2] }
  | _ => none }
def FnExactWalkToWrongFalsely : Prop := fnExactWalkToRow.holds Try.pinned (OpenSpec.ofChange fnExactWalkToWrong)

/-- 'laws.FnExactNearLabels': WHATEVER THE INPUT: true; the input reads as it did. -/
def fnExactNearLabelsSpec : ChangeSpec := { name := "fnExactNearLabels", fn := fun _ => fun
  | [d] => { results := [.lit (.bool true)], args := [d] }
  | _ => none }
def fnExactNearLabelsRow : OpenClaim := { program := "ytblgoflkcomncaa", sum := "87acc4f16dcb66fd02589ef330eefa29113c68178a3b5f7fd17910adfc613a7a", func := "loop.example/g01326/laws.FnExactNearLabels", spec := "fnExactNearLabels", unfollowed := true, recurses := true, plainKeys := false, apart := false }
def FnExactNearLabelsSaid : Prop := fnExactNearLabelsRow.holds Try.pinned (OpenSpec.ofChange fnExactNearLabelsSpec)

/-- ITS FALSE NEIGHBOUR: 'it returns false'. Refute it at one input. -/
def fnExactNearLabelsWrong : ChangeSpec := { name := "fnExactNearLabels", fn := fun _ => fun
  | [d] => { results := [.lit (.bool false)], args := [d] }
  | _ => none }
def FnExactNearLabelsWrongFalsely : Prop := fnExactNearLabelsRow.holds Try.pinned (OpenSpec.ofChange fnExactNearLabelsWrong)

/-- 'laws.FnExactSwappedLabels': WHATEVER THE INPUT: true; the input reads as it did. -/
def fnExactSwappedLabelsSpec : ChangeSpec := { name := "fnExactSwappedLabels", fn := fun _ => fun
  | [d] => { results := [.lit (.bool true)], args := [d] }
  | _ => none }
def fnExactSwappedLabelsRow : OpenClaim := { program := "ytblgoflkcomncaa", sum := "87acc4f16dcb66fd02589ef330eefa29113c68178a3b5f7fd17910adfc613a7a", func := "loop.example/g01326/laws.FnExactSwappedLabels", spec := "fnExactSwappedLabels", unfollowed := true, recurses := true, plainKeys := false, apart := false }
def FnExactSwappedLabelsSaid : Prop := fnExactSwappedLabelsRow.holds Try.pinned (OpenSpec.ofChange fnExactSwappedLabelsSpec)

/-- ITS FALSE NEIGHBOUR: 'it returns false'. Refute it at one input. -/
def fnExactSwappedLabelsWrong : ChangeSpec := { name := "fnExactSwappedLabels", fn := fun _ => fun
  | [d] => { results := [.lit (.bool false)], args := [d] }
  | _ => none }
def FnExactSwappedLabelsWrongFalsely : Prop := fnExactSwappedLabelsRow.holds Try.pinned (OpenSpec.ofChange fnExactSwappedLabelsWrong)

/-- 'laws.FnExactHeightsOf': WHATEVER THE INPUT: true; the input reads as it did. -/
def fnExactHeightsOfSpec : ChangeSpec := { name := "fnExactHeightsOf", fn := fun _ => fun
  | [d1, d2] => { results := [.lit (.bool true)], args := [d1, d2] }
  | _ => none }
def fnExactHeightsOfRow : OpenClaim := { program := "ytblgoflkcomncaa", sum := "87acc4f16dcb66fd02589ef330eefa29113c68178a3b5f7fd17910adfc613a7a", func := "loop.example/g01326/laws.FnExactHeightsOf", spec := "fnExactHeightsOf", unfollowed := true, recurses := true, plainKeys := false, apart := false }
def FnExactHeightsOfSaid : Prop := fnExactHeightsOfRow.holds Try.pinned (OpenSpec.ofChange fnExactHeightsOfSpec)

/-- ITS FALSE NEIGHBOUR: 'it returns false'. Refute it at one input. -/
def fnExactHeightsOfWrong : ChangeSpec := { name := "fnExactHeightsOf", fn := fun _ => fun
  | [d1, d2] => { results := [.lit (.bool false)], args := [d1, d2] }
  | _ => none }
def FnExactHeightsOfWrongFalsely : Prop := fnExactHeightsOfRow.holds Try.pinned (OpenSpec.ofChange fnExactHeightsOfWrong)

/-- 'laws.FnExactTableOf': WHATEVER THE INPUT: true; the input reads as it did. -/
def fnExactTableOfSpec : ChangeSpec := { name := "fnExactTableOf", fn := fun _ => fun
  | [d1, d2] => { results := [.lit (.bool true)], args := [d1, d2] }
  | _ => none }
def fnExactTableOfRow : OpenClaim := { program := "ytblgoflkcomncaa", sum := "87acc4f16dcb66fd02589ef330eefa29113c68178a3b5f7fd17910adfc613a7a", func := "loop.example/g01326/laws.FnExactTableOf", spec := "fnExactTableOf", unfollowed := true, recurses := true, plainKeys := false, apart := false }
def FnExactTableOfSaid : Prop := fnExactTableOfRow.holds Try.pinned (OpenSpec.ofChange fnExactTableOfSpec)

/-- ITS FALSE NEIGHBOUR: 'it returns false'. Refute it at one input. -/
def fnExactTableOfWrong : ChangeSpec := { name := "fnExactTableOf", fn := fun _ => fun
  | [d1, d2] => { results := [.lit (.bool false)], args := [d1, d2] }
  | _ => none }
def FnExactTableOfWrongFalsely : Prop := fnExactTableOfRow.holds Try.pinned (OpenSpec.ofChange fnExactTableOfWrong)

/- THE SECOND FORM. 'bulk': how many values and letters a reading holds, each counted each time it is reached (what is shared counts as often as it is met; a slice's spare places count too). A statement '..UptoSaid' is the law's where the arguments, and the package variables that the reading takes, are together of bulk at most 1048576: NARROWER than '..Said'. Prove '..Said' where nothing that the law and all that it calls make is longer than what came in: it says more and counts as full. Else prove '..UptoSaid'. A law counts once. -/
mutual
def uptoBulk {H : Type} : DataW H → Nat
  | .lit (.string bytes) => bytes.length + 1
  | .lit _ => 1
  | .nil => 1
  | .ptr d => uptoBulk d + 1
  | .slice elems spare => uptoBulkAll elems + uptoBulkAll spare + 1
  | .agg parts => uptoBulkAll parts + 1
  | .iface _ d => uptoBulk d + 1
  | .map entries => uptoBulkEntries entries + 1
  | .held _ => 1
def uptoBulkAll {H : Type} : List (DataW H) → Nat
  | [] => 0
  | d :: r => uptoBulk d + uptoBulkAll r
def uptoBulkEntries {H : Type} : List (Lit × DataW H) → Nat
  | [] => 0
  | x :: r => uptoBulkEntry x + uptoBulkEntries r
def uptoBulkEntry {H : Type} : Lit × DataW H → Nat
  | (.string bytes, d) => bytes.length + uptoBulk d + 1
  | (_, d) => uptoBulk d + 1
 end
def uptoSmall : (H : Type) → List (DataW H) → Bool := fun _ ds => decide (uptoBulkAll ds ≤ 1048576)
def OpenSpec.upto (s : _root_.Go.ChangeSpec) : _root_.Go.OpenSpec := { _root_.Go.OpenSpec.ofChange s with cond := some uptoSmall }

/-- 'laws.FnExactCaseFrom', WHERE WHAT IT READS IS OF BULK AT MOST 1048576: true; the input reads as it did. -/
def fnExactCaseFromUptoRow : OpenClaim := { program := "ytblgoflkcomncaa", sum := "87acc4f16dcb66fd02589ef330eefa29113c68178a3b5f7fd17910adfc613a7a", func := "loop.example/g01326/laws.FnExactCaseFrom", spec := "fnExactCaseFrom", unfollowed := true, recurses := true, plainKeys := false, apart := false, narrowed := true }
def FnExactCaseFromUptoSaid : Prop := fnExactCaseFromUptoRow.holds Try.pinned (OpenSpec.upto fnExactCaseFromSpec)

/-- 'laws.FnExactPairsOut', WHERE WHAT IT READS IS OF BULK AT MOST 1048576: true; the input reads as it did. -/
def fnExactPairsOutUptoRow : OpenClaim := { program := "ytblgoflkcomncaa", sum := "87acc4f16dcb66fd02589ef330eefa29113c68178a3b5f7fd17910adfc613a7a", func := "loop.example/g01326/laws.FnExactPairsOut", spec := "fnExactPairsOut", unfollowed := true, recurses := true, plainKeys := false, apart := false, narrowed := true }
def FnExactPairsOutUptoSaid : Prop := fnExactPairsOutUptoRow.holds Try.pinned (OpenSpec.upto fnExactPairsOutSpec)

/-- 'laws.FnExactMoveBook', WHERE WHAT IT READS IS OF BULK AT MOST 1048576: true; the input reads as it did. -/
def fnExactMoveBookUptoRow : OpenClaim := { program := "ytblgoflkcomncaa", sum := "87acc4f16dcb66fd02589ef330eefa29113c68178a3b5f7fd17910adfc613a7a", func := "loop.example/g01326/laws.FnExactMoveBook", spec := "fnExactMoveBook", unfollowed := true, recurses := true, plainKeys := false, apart := false, narrowed := true }
def FnExactMoveBookUptoSaid : Prop := fnExactMoveBookUptoRow.holds Try.pinned (OpenSpec.upto fnExactMoveBookSpec)

/-- 'laws.FnExactMoveBlock', WHERE WHAT IT READS IS OF BULK AT MOST 1048576: true; the input reads as it did. -/
def fnExactMoveBlockUptoRow : OpenClaim := { program := "ytblgoflkcomncaa", sum := "87acc4f16dcb66fd02589ef330eefa29113c68178a3b5f7fd17910adfc613a7a", func := "loop.example/g01326/laws.FnExactMoveBlock", spec := "fnExactMoveBlock", unfollowed := true, recurses := true, plainKeys := false, apart := false, narrowed := true }
def FnExactMoveBlockUptoSaid : Prop := fnExactMoveBlockUptoRow.holds Try.pinned (OpenSpec.upto fnExactMoveBlockSpec)

/-- 'laws.FnExactMoveAll', WHERE WHAT IT READS IS OF BULK AT MOST 1048576: true; the input reads as it did. -/
def fnExactMoveAllUptoRow : OpenClaim := { program := "ytblgoflkcomncaa", sum := "87acc4f16dcb66fd02589ef330eefa29113c68178a3b5f7fd17910adfc613a7a", func := "loop.example/g01326/laws.FnExactMoveAll", spec := "fnExactMoveAll", unfollowed := true, recurses := true, plainKeys := false, apart := false, narrowed := true }
def FnExactMoveAllUptoSaid : Prop := fnExactMoveAllUptoRow.holds Try.pinned (OpenSpec.upto fnExactMoveAllSpec)

/-- 'laws.FnExactSortBooks', WHERE WHAT IT READS IS OF BULK AT MOST 1048576: true; the input reads as it did. -/
def fnExactSortBooksUptoRow : OpenClaim := { program := "ytblgoflkcomncaa", sum := "87acc4f16dcb66fd02589ef330eefa29113c68178a3b5f7fd17910adfc613a7a", func := "loop.example/g01326/laws.FnExactSortBooks", spec := "fnExactSortBooks", unfollowed := true, recurses := true, plainKeys := false, apart := false, narrowed := true }
def FnExactSortBooksUptoSaid : Prop := fnExactSortBooksUptoRow.holds Try.pinned (OpenSpec.upto fnExactSortBooksSpec)

/-- 'laws.FnExactShortestWalk', WHERE WHAT IT READS IS OF BULK AT MOST 1048576: true; the input reads as it did. -/
def fnExactShortestWalkUptoRow : OpenClaim := { program := "ytblgoflkcomncaa", sum := "87acc4f16dcb66fd02589ef330eefa29113c68178a3b5f7fd17910adfc613a7a", func := "loop.example/g01326/laws.FnExactShortestWalk", spec := "fnExactShortestWalk", unfollowed := true, recurses := true, plainKeys := false, apart := false, narrowed := true }
def FnExactShortestWalkUptoSaid : Prop := fnExactShortestWalkUptoRow.holds Try.pinned (OpenSpec.upto fnExactShortestWalkSpec)

/-- 'laws.FnExactWalkTo', WHERE WHAT IT READS IS OF BULK AT MOST 1048576: true; the input reads as it did. -/
def fnExactWalkToUptoRow : OpenClaim := { program := "ytblgoflkcomncaa", sum := "87acc4f16dcb66fd02589ef330eefa29113c68178a3b5f7fd17910adfc613a7a", func := "loop.example/g01326/laws.FnExactWalkTo", spec := "fnExactWalkTo", unfollowed := true, recurses := true, plainKeys := false, apart := false, narrowed := true }
def FnExactWalkToUptoSaid : Prop := fnExactWalkToUptoRow.holds Try.pinned (OpenSpec.upto fnExactWalkToSpec)

/-- 'laws.FnExactNearLabels', WHERE WHAT IT READS IS OF BULK AT MOST 1048576: true; the input reads as it did. -/
def fnExactNearLabelsUptoRow : OpenClaim := { program := "ytblgoflkcomncaa", sum := "87acc4f16dcb66fd02589ef330eefa29113c68178a3b5f7fd17910adfc613a7a", func := "loop.example/g01326/laws.FnExactNearLabels", spec := "fnExactNearLabels", unfollowed := true, recurses := true, plainKeys := false, apart := false, narrowed := true }
def FnExactNearLabelsUptoSaid : Prop := fnExactNearLabelsUptoRow.holds Try.pinned (OpenSpec.upto fnExactNearLabelsSpec)

/-- 'laws.FnExactSwappedLabels', WHERE WHAT IT READS IS OF BULK AT MOST 1048576: true; the input reads as it did. -/
def fnExactSwappedLabelsUptoRow : OpenClaim := { program := "ytblgoflkcomncaa", sum := "87acc4f16dcb66fd02589ef330eefa29113c68178a3b5f7fd17910adfc613a7a", func := "loop.example/g01326/laws.FnExactSwappedLabels", spec := "fnExactSwappedLabels", unfollowed := true, recurses := true, plainKeys := false, apart := false, narrowed := true }
def FnExactSwappedLabelsUptoSaid : Prop := fnExactSwappedLabelsUptoRow.holds Try.pinned (OpenSpec.upto fnExactSwappedLabelsSpec)

/-- 'laws.FnExactHeightsOf', WHERE WHAT IT READS IS OF BULK AT MOST 1048576: true; the input reads as it did. -/
def fnExactHeightsOfUptoRow : OpenClaim := { program := "ytblgoflkcomncaa", sum := "87acc4f16dcb66fd02589ef330eefa29113c68178a3b5f7fd17910adfc613a7a", func := "loop.example/g01326/laws.FnExactHeightsOf", spec := "fnExactHeightsOf", unfollowed := true, recurses := true, plainKeys := false, apart := false, narrowed := true }
def FnExactHeightsOfUptoSaid : Prop := fnExactHeightsOfUptoRow.holds Try.pinned (OpenSpec.upto fnExactHeightsOfSpec)

/-- 'laws.FnExactTableOf', WHERE WHAT IT READS IS OF BULK AT MOST 1048576: true; the input reads as it did. -/
def fnExactTableOfUptoRow : OpenClaim := { program := "ytblgoflkcomncaa", sum := "87acc4f16dcb66fd02589ef330eefa29113c68178a3b5f7fd17910adfc613a7a", func := "loop.example/g01326/laws.FnExactTableOf", spec := "fnExactTableOf", unfollowed := true, recurses := true, plainKeys := false, apart := false, narrowed := true }
def FnExactTableOfUptoSaid : Prop := fnExactTableOfUptoRow.holds Try.pinned (OpenSpec.upto fnExactTableOfSpec)

end Rows
end Go.Proofs.Ytblgoflkcomncaa
