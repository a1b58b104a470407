/-
  No cell of these rows narrows 'for every input' (looked for: loops, veiled, ifaces, maps, wideKeys, modest, calm, conditions, laid).
  DERIVED. THE GIVEN ROWS OF THIS SEAT. 12 by the template 'for every input the law returns true; each argument reads behind the call as it read before'; 0 by the template 'total and deterministic' (their statements: YtjfhpgomaahgoabTotals.lean).
  GIVEN WITH THE SEED: the statements are not yours to turn. If you find one false, say at which input.
  Laid BY PROGRAM, IN A SANDBOX (cutbox-rows.mjs): the forced cells as the released guide's own fill.sh prints them over the translation 08343a2d7409283e… (all of the seat's roots in one cut). By AI agents, Wed Nov 11 2026. No macro, syntax, notation, axiom, sorry.
-/
import Derived.Test.YtjfhpgomaahgoabChecked
import GoSem.Claim
import GoSem.ClaimJoined
import GoSem.ClaimMapViews
import Derived.JoinedTies
import Derived.KernelRfl
namespace Go.Proofs.Ytjfhpgomaahgoab
/- THE CELL 'sum', in the pinned program and in every row, IS THE sha256 OF THE DUMP (.gsa) THAT YtjfhpgomaahgoabProg.lean LOADS. Nothing in Lean hashes anything: it is a label: what it is worth is what the hold of that sum in a sandbox is worth. -/
noncomputable def Try.pinned : Pinned := { name := "ytjfhpgomaahgoab", sum := "08343a2d7409283eb502068f83747952017ca0c6cb1d914e5d0cc9900a782a4d", checked := Try.checked }
namespace Rows
def none {H : Type} : Left H := { results := [], args := [] }

/-- 'laws.FnExactMoveBook': WHATEVER THE INPUT: true; the input reads as it did. -/
def fnExactMoveBookSpec : ChangeSpec := { name := "fnExactMoveBook", fn := fun _ => fun
  | [d1, d2] => { results := [.lit (.bool true)], args := [d1, d2] }
  | _ => none }
def fnExactMoveBookRow : OpenClaim := { program := "ytjfhpgomaahgoab", sum := "08343a2d7409283eb502068f83747952017ca0c6cb1d914e5d0cc9900a782a4d", func := "loop.example/g01326/laws.FnExactMoveBook", spec := "fnExactMoveBook", unfollowed := true, recurses := true, plainKeys := false, apart := false }
def FnExactMoveBookSaid : Prop := fnExactMoveBookRow.holds Try.pinned (OpenSpec.ofChange fnExactMoveBookSpec)

/-- ITS FALSE NEIGHBOUR: 'it returns false'. Refute it at one input. -/
def fnExactMoveBookWrong : ChangeSpec := { name := "fnExactMoveBook", fn := fun _ => fun
  | [d1, d2] => { results := [.lit (.bool false)], args := [d1, d2] }
  | _ => none }
def FnExactMoveBookWrongFalsely : Prop := fnExactMoveBookRow.holds Try.pinned (OpenSpec.ofChange fnExactMoveBookWrong)

/-- 'laws.FnExactMoveBlock': WHATEVER THE INPUT: true; the input reads as it did. -/
def fnExactMoveBlockSpec : ChangeSpec := { name := "fnExactMoveBlock", fn := fun _ => fun
  | [d1, d2] => { results := [.lit (.bool true)], args := [d1, d2] }
  | _ => none }
def fnExactMoveBlockRow : OpenClaim := { program := "ytjfhpgomaahgoab", sum := "08343a2d7409283eb502068f83747952017ca0c6cb1d914e5d0cc9900a782a4d", func := "loop.example/g01326/laws.FnExactMoveBlock", spec := "fnExactMoveBlock", unfollowed := true, recurses := true, plainKeys := false, apart := false }
def FnExactMoveBlockSaid : Prop := fnExactMoveBlockRow.holds Try.pinned (OpenSpec.ofChange fnExactMoveBlockSpec)

/-- ITS FALSE NEIGHBOUR: 'it returns false'. Refute it at one input. -/
def fnExactMoveBlockWrong : ChangeSpec := { name := "fnExactMoveBlock", fn := fun _ => fun
  | [d1, d2] => { results := [.lit (.bool false)], args := [d1, d2] }
  | _ => none }
def FnExactMoveBlockWrongFalsely : Prop := fnExactMoveBlockRow.holds Try.pinned (OpenSpec.ofChange fnExactMoveBlockWrong)

/-- 'laws.FnExactMoveAll': WHATEVER THE INPUT: true; the input reads as it did. -/
def fnExactMoveAllSpec : ChangeSpec := { name := "fnExactMoveAll", fn := fun _ => fun
  | [d1, d2] => { results := [.lit (.bool true)], args := [d1, d2] }
  | _ => none }
def fnExactMoveAllRow : OpenClaim := { program := "ytjfhpgomaahgoab", sum := "08343a2d7409283eb502068f83747952017ca0c6cb1d914e5d0cc9900a782a4d", func := "loop.example/g01326/laws.FnExactMoveAll", spec := "fnExactMoveAll", unfollowed := true, recurses := true, plainKeys := false, apart := false }
def FnExactMoveAllSaid : Prop := fnExactMoveAllRow.holds Try.pinned (OpenSpec.ofChange fnExactMoveAllSpec)

/-- ITS FALSE NEIGHBOUR: 'it returns false'. Refute it at one input. -/
def fnExactMoveAllWrong : ChangeSpec := { name := "fnExactMoveAll", fn := fun _ => fun
  | [d1, d2] => { results := [.lit (.bool false)], args := [d1, d2] }
  | _ => none }
def FnExactMoveAllWrongFalsely : Prop := fnExactMoveAllRow.holds Try.pinned (OpenSpec.ofChange fnExactMoveAllWrong)

/-- 'laws.FnExactBreaksOf': WHATEVER THE INPUT: true; the input reads as it did. -/
def fnExactBreaksOfSpec : ChangeSpec := { name := "fnExactBreaksOf", fn := fun _ => fun
  | [d] => { results := [.lit (.bool true)], args := [d] }
  | _ => none }
def fnExactBreaksOfRow : OpenClaim := { program := "ytjfhpgomaahgoab", sum := "08343a2d7409283eb502068f83747952017ca0c6cb1d914e5d0cc9900a782a4d", func := "loop.example/g01326/laws.FnExactBreaksOf", spec := "fnExactBreaksOf", unfollowed := true, recurses := true, plainKeys := false, apart := false }
def FnExactBreaksOfSaid : Prop := fnExactBreaksOfRow.holds Try.pinned (OpenSpec.ofChange fnExactBreaksOfSpec)

/-- ITS FALSE NEIGHBOUR: 'it returns false'. Refute it at one input. -/
def fnExactBreaksOfWrong : ChangeSpec := { name := "fnExactBreaksOf", fn := fun _ => fun
  | [d] => { results := [.lit (.bool false)], args := [d] }
  | _ => none }
def FnExactBreaksOfWrongFalsely : Prop := fnExactBreaksOfRow.holds Try.pinned (OpenSpec.ofChange fnExactBreaksOfWrong)

/-- 'laws.FnExactPassesOf': WHATEVER THE INPUT: true; the input reads as it did. -/
def fnExactPassesOfSpec : ChangeSpec := { name := "fnExactPassesOf", fn := fun _ => fun
  | [d] => { results := [.lit (.bool true)], args := [d] }
  | _ => none }
def fnExactPassesOfRow : OpenClaim := { program := "ytjfhpgomaahgoab", sum := "08343a2d7409283eb502068f83747952017ca0c6cb1d914e5d0cc9900a782a4d", func := "loop.example/g01326/laws.FnExactPassesOf", spec := "fnExactPassesOf", unfollowed := true, recurses := true, plainKeys := false, apart := false }
def FnExactPassesOfSaid : Prop := fnExactPassesOfRow.holds Try.pinned (OpenSpec.ofChange fnExactPassesOfSpec)

/-- ITS FALSE NEIGHBOUR: 'it returns false'. Refute it at one input. -/
def fnExactPassesOfWrong : ChangeSpec := { name := "fnExactPassesOf", fn := fun _ => fun
  | [d] => { results := [.lit (.bool false)], args := [d] }
  | _ => none }
def FnExactPassesOfWrongFalsely : Prop := fnExactPassesOfRow.holds Try.pinned (OpenSpec.ofChange fnExactPassesOfWrong)

/-- 'laws.FnExactPassList': WHATEVER THE INPUT: true; the input reads as it did. -/
def fnExactPassListSpec : ChangeSpec := { name := "fnExactPassList", fn := fun _ => fun
  | [d] => { results := [.lit (.bool true)], args := [d] }
  | _ => none }
def fnExactPassListRow : OpenClaim := { program := "ytjfhpgomaahgoab", sum := "08343a2d7409283eb502068f83747952017ca0c6cb1d914e5d0cc9900a782a4d", func := "loop.example/g01326/laws.FnExactPassList", spec := "fnExactPassList", unfollowed := true, recurses := true, plainKeys := false, apart := false }
def FnExactPassListSaid : Prop := fnExactPassListRow.holds Try.pinned (OpenSpec.ofChange fnExactPassListSpec)

/-- ITS FALSE NEIGHBOUR: 'it returns false'. Refute it at one input. -/
def fnExactPassListWrong : ChangeSpec := { name := "fnExactPassList", fn := fun _ => fun
  | [d] => { results := [.lit (.bool false)], args := [d] }
  | _ => none }
def FnExactPassListWrongFalsely : Prop := fnExactPassListRow.holds Try.pinned (OpenSpec.ofChange fnExactPassListWrong)

/-- 'laws.FnExactLeastSwaps': WHATEVER THE INPUT: true; the input reads as it did. -/
def fnExactLeastSwapsSpec : ChangeSpec := { name := "fnExactLeastSwaps", fn := fun _ => fun
  | [d] => { results := [.lit (.bool true)], args := [d] }
  | _ => none }
def fnExactLeastSwapsRow : OpenClaim := { program := "ytjfhpgomaahgoab", sum := "08343a2d7409283eb502068f83747952017ca0c6cb1d914e5d0cc9900a782a4d", func := "loop.example/g01326/laws.FnExactLeastSwaps", spec := "fnExactLeastSwaps", unfollowed := true, recurses := true, plainKeys := false, apart := false }
def FnExactLeastSwapsSaid : Prop := fnExactLeastSwapsRow.holds Try.pinned (OpenSpec.ofChange fnExactLeastSwapsSpec)

/-- ITS FALSE NEIGHBOUR: 'it returns false'. Refute it at one input. -/
def fnExactLeastSwapsWrong : ChangeSpec := { name := "fnExactLeastSwaps", fn := fun _ => fun
  | [d] => { results := [.lit (.bool false)], args := [d] }
  | _ => none }
def FnExactLeastSwapsWrongFalsely : Prop := fnExactLeastSwapsRow.holds Try.pinned (OpenSpec.ofChange fnExactLeastSwapsWrong)

/-- 'laws.FnExactSwapsFor': WHATEVER THE INPUT: true; the input reads as it did. -/
def fnExactSwapsForSpec : ChangeSpec := { name := "fnExactSwapsFor", fn := fun _ => fun
  | [d] => { results := [.lit (.bool true)], args := [d] }
  | _ => none }
def fnExactSwapsForRow : OpenClaim := { program := "ytjfhpgomaahgoab", sum := "08343a2d7409283eb502068f83747952017ca0c6cb1d914e5d0cc9900a782a4d", func := "loop.example/g01326/laws.FnExactSwapsFor", spec := "fnExactSwapsFor", unfollowed := true, recurses := true, plainKeys := false, apart := false }
def FnExactSwapsForSaid : Prop := fnExactSwapsForRow.holds Try.pinned (OpenSpec.ofChange fnExactSwapsForSpec)

/-- ITS FALSE NEIGHBOUR: 'it returns false'. Refute it at one input. -/
def fnExactSwapsForWrong : ChangeSpec := { name := "fnExactSwapsFor", fn := fun _ => fun
  | [d] => { results := [.lit (.bool false)], args := [d] }
  | _ => none }
def FnExactSwapsForWrongFalsely : Prop := fnExactSwapsForRow.holds Try.pinned (OpenSpec.ofChange fnExactSwapsForWrong)

/-- 'laws.FnExactTableOf': WHATEVER THE INPUT: true; the input reads as it did. -/
def fnExactTableOfSpec : ChangeSpec := { name := "fnExactTableOf", fn := fun _ => fun
  | [d1, d2] => { results := [.lit (.bool true)], args := [d1, d2] }
  | _ => none }
def fnExactTableOfRow : OpenClaim := { program := "ytjfhpgomaahgoab", sum := "08343a2d7409283eb502068f83747952017ca0c6cb1d914e5d0cc9900a782a4d", func := "loop.example/g01326/laws.FnExactTableOf", spec := "fnExactTableOf", unfollowed := true, recurses := true, plainKeys := false, apart := false }
def FnExactTableOfSaid : Prop := fnExactTableOfRow.holds Try.pinned (OpenSpec.ofChange fnExactTableOfSpec)

/-- ITS FALSE NEIGHBOUR: 'it returns false'. Refute it at one input. -/
def fnExactTableOfWrong : ChangeSpec := { name := "fnExactTableOf", fn := fun _ => fun
  | [d1, d2] => { results := [.lit (.bool false)], args := [d1, d2] }
  | _ => none }
def FnExactTableOfWrongFalsely : Prop := fnExactTableOfRow.holds Try.pinned (OpenSpec.ofChange fnExactTableOfWrong)

/-- 'laws.FnExactLeastCost': WHATEVER THE INPUT: true; the input reads as it did. -/
def fnExactLeastCostSpec : ChangeSpec := { name := "fnExactLeastCost", fn := fun _ => fun
  | [d1, d2] => { results := [.lit (.bool true)], args := [d1, d2] }
  | _ => none }
def fnExactLeastCostRow : OpenClaim := { program := "ytjfhpgomaahgoab", sum := "08343a2d7409283eb502068f83747952017ca0c6cb1d914e5d0cc9900a782a4d", func := "loop.example/g01326/laws.FnExactLeastCost", spec := "fnExactLeastCost", unfollowed := true, recurses := true, plainKeys := false, apart := false }
def FnExactLeastCostSaid : Prop := fnExactLeastCostRow.holds Try.pinned (OpenSpec.ofChange fnExactLeastCostSpec)

/-- ITS FALSE NEIGHBOUR: 'it returns false'. Refute it at one input. -/
def fnExactLeastCostWrong : ChangeSpec := { name := "fnExactLeastCost", fn := fun _ => fun
  | [d1, d2] => { results := [.lit (.bool false)], args := [d1, d2] }
  | _ => none }
def FnExactLeastCostWrongFalsely : Prop := fnExactLeastCostRow.holds Try.pinned (OpenSpec.ofChange fnExactLeastCostWrong)

/-- 'laws.FnExactFewestShelves': WHATEVER THE INPUT: true; the input reads as it did. -/
def fnExactFewestShelvesSpec : ChangeSpec := { name := "fnExactFewestShelves", fn := fun _ => fun
  | [d1, d2] => { results := [.lit (.bool true)], args := [d1, d2] }
  | _ => none }
def fnExactFewestShelvesRow : OpenClaim := { program := "ytjfhpgomaahgoab", sum := "08343a2d7409283eb502068f83747952017ca0c6cb1d914e5d0cc9900a782a4d", func := "loop.example/g01326/laws.FnExactFewestShelves", spec := "fnExactFewestShelves", unfollowed := true, recurses := true, plainKeys := false, apart := false }
def FnExactFewestShelvesSaid : Prop := fnExactFewestShelvesRow.holds Try.pinned (OpenSpec.ofChange fnExactFewestShelvesSpec)

/-- ITS FALSE NEIGHBOUR: 'it returns false'. Refute it at one input. -/
def fnExactFewestShelvesWrong : ChangeSpec := { name := "fnExactFewestShelves", fn := fun _ => fun
  | [d1, d2] => { results := [.lit (.bool false)], args := [d1, d2] }
  | _ => none }
def FnExactFewestShelvesWrongFalsely : Prop := fnExactFewestShelvesRow.holds Try.pinned (OpenSpec.ofChange fnExactFewestShelvesWrong)

/-- 'laws.FnExactBestHeights': WHATEVER THE INPUT: true; the input reads as it did. -/
def fnExactBestHeightsSpec : ChangeSpec := { name := "fnExactBestHeights", fn := fun _ => fun
  | [d1, d2, d3] => { results := [.lit (.bool true)], args := [d1, d2, d3] }
  | _ => none }
def fnExactBestHeightsRow : OpenClaim := { program := "ytjfhpgomaahgoab", sum := "08343a2d7409283eb502068f83747952017ca0c6cb1d914e5d0cc9900a782a4d", func := "loop.example/g01326/laws.FnExactBestHeights", spec := "fnExactBestHeights", unfollowed := true, recurses := true, plainKeys := false, apart := false }
def FnExactBestHeightsSaid : Prop := fnExactBestHeightsRow.holds Try.pinned (OpenSpec.ofChange fnExactBestHeightsSpec)

/-- ITS FALSE NEIGHBOUR: 'it returns false'. Refute it at one input. -/
def fnExactBestHeightsWrong : ChangeSpec := { name := "fnExactBestHeights", fn := fun _ => fun
  | [d1, d2, d3] => { results := [.lit (.bool false)], args := [d1, d2, d3] }
  | _ => none }
def FnExactBestHeightsWrongFalsely : Prop := fnExactBestHeightsRow.holds Try.pinned (OpenSpec.ofChange fnExactBestHeightsWrong)

/- THE SECOND FORM. 'bulk': how many values and letters a reading holds, each counted each time it is reached (what is shared counts as often as it is met; a slice's spare places count too). A statement '..UptoSaid' is the law's where the arguments, and the package variables that the reading takes, are together of bulk at most 1048576: NARROWER than '..Said'. Prove '..Said' where nothing that the law and all that it calls make is longer than what came in: it says more and counts as full. Else prove '..UptoSaid'. A law counts once. -/
mutual
def uptoBulk {H : Type} : DataW H → Nat
  | .lit (.string bytes) => bytes.length + 1
  | .lit _ => 1
  | .nil => 1
  | .ptr d => uptoBulk d + 1
  | .slice elems spare => uptoBulkAll elems + uptoBulkAll spare + 1
  | .agg parts => uptoBulkAll parts + 1
  | .iface _ d => uptoBulk d + 1
  | .map entries => uptoBulkEntries entries + 1
  | .held _ => 1
def uptoBulkAll {H : Type} : List (DataW H) → Nat
  | [] => 0
  | d :: r => uptoBulk d + uptoBulkAll r
def uptoBulkEntries {H : Type} : List (Lit × DataW H) → Nat
  | [] => 0
  | x :: r => uptoBulkEntry x + uptoBulkEntries r
def uptoBulkEntry {H : Type} : Lit × DataW H → Nat
  | (.string bytes, d) => bytes.length + uptoBulk d + 1
  | (_, d) => uptoBulk d + 1
 end
def uptoSmall : (H : Type) → List (DataW H) → Bool := fun _ ds => decide (uptoBulkAll ds ≤ 1048576)
def OpenSpec.upto (s : _root_.Go.ChangeSpec) : _root_.Go.OpenSpec := { _root_.Go.OpenSpec.ofChange s with cond := some uptoSmall }

/-- 'laws.FnExactMoveBook', WHERE WHAT IT READS IS OF BULK AT MOST 1048576: true; the input reads as it did. -/
def fnExactMoveBookUptoRow : OpenClaim := { program := "ytjfhpgomaahgoab", sum := "08343a2d7409283eb502068f83747952017ca0c6cb1d914e5d0cc9900a782a4d", func := "loop.example/g01326/laws.FnExactMoveBook", spec := "fnExactMoveBook", unfollowed := true, recurses := true, plainKeys := false, apart := false, narrowed := true }
def FnExactMoveBookUptoSaid : Prop := fnExactMoveBookUptoRow.holds Try.pinned (OpenSpec.upto fnExactMoveBookSpec)

/-- 'laws.FnExactMoveBlock', WHERE WHAT IT READS IS OF BULK AT MOST 1048576: true; the input reads as it did. -/
def fnExactMoveBlockUptoRow : OpenClaim := { program := "ytjfhpgomaahgoab", sum := "08343a2d7409283eb502068f83747952017ca0c6cb1d914e5d0cc9900a782a4d", func := "loop.example/g01326/laws.FnExactMoveBlock", spec := "fnExactMoveBlock", unfollowed := true, recurses := true, plainKeys := false, apart := false, narrowed := true }
def FnExactMoveBlockUptoSaid : Prop := fnExactMoveBlockUptoRow.holds Try.pinned (OpenSpec.upto fnExactMoveBlockSpec)

/-- 'laws.FnExactMoveAll', WHERE WHAT IT READS IS OF BULK AT MOST 1048576: true; the input reads as it did. -/
def fnExactMoveAllUptoRow : OpenClaim := { program := "ytjfhpgomaahgoab", sum := "08343a2d7409283eb502068f83747952017ca0c6cb1d914e5d0cc9900a782a4d", func := "loop.example/g01326/laws.FnExactMoveAll", spec := "fnExactMoveAll", unfollowed := true, recurses := true, plainKeys := false, apart := false, narrowed := true }
def FnExactMoveAllUptoSaid : Prop := fnExactMoveAllUptoRow.holds Try.pinned (OpenSpec.upto fnExactMoveAllSpec)

/-- 'laws.FnExactBreaksOf', WHERE WHAT IT READS IS OF BULK AT MOST 1048576: true; the input reads as it did. -/
def fnExactBreaksOfUptoRow : OpenClaim := { program := "ytjfhpgomaahgoab", sum := "08343a2d7409283eb502068f83747952017ca0c6cb1d914e5d0cc9900a782a4d", func := "loop.example/g01326/laws.FnExactBreaksOf", spec := "fnExactBreaksOf", unfollowed := true, recurses := true, plainKeys := false, apart := false, narrowed := true }
def FnExactBreaksOfUptoSaid : Prop := fnExactBreaksOfUptoRow.holds Try.pinned (OpenSpec.upto fnExactBreaksOfSpec)

/-- 'laws.FnExactPassesOf', WHERE WHAT IT READS IS OF BULK AT MOST 1048576: true; the input reads as it did. -/
def fnExactPassesOfUptoRow : OpenClaim := { program := "ytjfhpgomaahgoab", sum := "08343a2d7409283eb502068f83747952017ca0c6cb1d914e5d0cc9900a782a4d", func := "loop.example/g01326/laws.FnExactPassesOf", spec := "fnExactPassesOf", unfollowed := true, recurses := true, plainKeys := false, apart := false, narrowed := true }
def FnExactPassesOfUptoSaid : Prop := fnExactPassesOfUptoRow.holds Try.pinned (OpenSpec.upto fnExactPassesOfSpec)

/-- 'laws.FnExactPassList', WHERE WHAT IT READS IS OF BULK AT MOST 1048576: true; the input reads as it did. -/
def fnExactPassListUptoRow : OpenClaim := { program := "ytjfhpgomaahgoab", sum := "08343a2d7409283eb502068f83747952017ca0c6cb1d914e5d0cc9900a782a4d", func := "loop.example/g01326/laws.FnExactPassList", spec := "fnExactPassList", unfollowed := true, recurses := true, plainKeys := false, apart := false, narrowed := true }
def FnExactPassListUptoSaid : Prop := fnExactPassListUptoRow.holds Try.pinned (OpenSpec.upto fnExactPassListSpec)

/-- 'laws.FnExactLeastSwaps', WHERE WHAT IT READS IS OF BULK AT MOST 1048576: true; the input reads as it did. -/
def fnExactLeastSwapsUptoRow : OpenClaim := { program := "ytjfhpgomaahgoab", sum := "08343a2d7409283eb502068f83747952017ca0c6cb1d914e5d0cc9900a782a4d", func := "loop.example/g01326/laws.FnExactLeastSwaps", spec := "fnExactLeastSwaps", unfollowed := true, recurses := true, plainKeys := false, apart := false, narrowed := true }
def FnExactLeastSwapsUptoSaid : Prop := fnExactLeastSwapsUptoRow.holds Try.pinned (OpenSpec.upto fnExactLeastSwapsSpec)

/-- 'laws.FnExactSwapsFor', WHERE WHAT IT READS IS OF BULK AT MOST 1048576: true; the input reads as it did. -/
def fnExactSwapsForUptoRow : OpenClaim := { program := "ytjfhpgomaahgoab", sum := "08343a2d7409283eb502068f83747952017ca0c6cb1d914e5d0cc9900a782a4d", func := "loop.example/g01326/laws.FnExactSwapsFor", spec := "fnExactSwapsFor", unfollowed := true, recurses := true, plainKeys := false, apart := false, narrowed := true }
def FnExactSwapsForUptoSaid : Prop := fnExactSwapsForUptoRow.holds Try.pinned (OpenSpec.upto fnExactSwapsForSpec)

/-- 'laws.FnExactTableOf', WHERE WHAT IT READS IS OF BULK AT MOST 1048576: true; the input reads as it did. -/
def fnExactTableOfUptoRow : OpenClaim := { program := "ytjfhpgomaahgoab", sum := "08343a2d7409283eb502068f83747952017ca0c6cb1d914e5d0cc9900a782a4d", func := "loop.example/g01326/laws.FnExactTableOf", spec := "fnExactTableOf", unfollowed := true, recurses := true, plainKeys := false, apart := false, narrowed := true }
def FnExactTableOfUptoSaid : Prop := fnExactTableOfUptoRow.holds Try.pinned (OpenSpec.upto fnExactTableOfSpec)

/-- 'laws.FnExactLeastCost', WHERE WHAT IT READS IS OF BULK AT MOST 1048576: true; the input reads as it did. -/
def fnExactLeastCostUptoRow : OpenClaim := { program := "ytjfhpgomaahgoab", sum := "08343a2d7409283eb502068f83747952017ca0c6cb1d914e5d0cc9900a782a4d", func := "loop.example/g01326/laws.FnExactLeastCost", spec := "fnExactLeastCost", unfollowed := true, recurses := true, plainKeys := false, apart := false, narrowed := true }
def FnExactLeastCostUptoSaid : Prop := fnExactLeastCostUptoRow.holds Try.pinned (OpenSpec.upto fnExactLeastCostSpec)

/-- 'laws.FnExactFewestShelves', WHERE WHAT IT READS IS OF BULK AT MOST 1048576: true; the input reads as it did. -/
def fnExactFewestShelvesUptoRow : OpenClaim := { program := "ytjfhpgomaahgoab", sum := "08343a2d7409283eb502068f83747952017ca0c6cb1d914e5d0cc9900a782a4d", func := "loop.example/g01326/laws.FnExactFewestShelves", spec := "fnExactFewestShelves", unfollowed := true, recurses := true, plainKeys := false, apart := false, narrowed := true }
def FnExactFewestShelvesUptoSaid : Prop := fnExactFewestShelvesUptoRow.holds Try.pinned (OpenSpec.upto fnExactFewestShelvesSpec)

/-- 'laws.FnExactBestHeights', WHERE WHAT IT READS IS OF BULK AT MOST 1048576: true; the input reads as it did. -/
def fnExactBestHeightsUptoRow : OpenClaim := { program := "ytjfhpgomaahgoab", sum := "08343a2d7409283eb502068f83747952017ca0c6cb1d914e5d0cc9900a782a4d", func := "loop.example/g01326/laws.FnExactBestHeights", spec := "fnExactBestHeights", unfollowed := true, recurses := true, plainKeys := false, apart := false, narrowed := true }
def FnExactBestHeightsUptoSaid : Prop := fnExactBestHeightsUptoRow.holds Try.pinned (OpenSpec.upto fnExactBestHeightsSpec)

end Rows
end Go.Proofs.Ytjfhpgomaahgoab
