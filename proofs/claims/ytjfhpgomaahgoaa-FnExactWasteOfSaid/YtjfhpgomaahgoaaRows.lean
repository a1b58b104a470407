/-
  No cell of these rows narrows 'for every input' (looked for: loops, veiled, ifaces, maps, wideKeys, modest, calm, conditions, laid).
  DERIVED. THE GIVEN ROWS OF THIS SEAT. 12 by the template 'for every input the law returns true; each argument reads behind the call as it read before'; 0 by the template 'total and deterministic' (their statements: YtjfhpgomaahgoaaTotals.lean).
  GIVEN WITH THE SEED: the statements are not yours to turn. If you find one false, say at which input.
  Laid BY PROGRAM, IN A SANDBOX (cutbox-rows.mjs): the forced cells as the released guide's own fill.sh prints them over the translation 11f5447eabb42bbe… (all of the seat's roots in one cut). By AI agents, Wed Nov 11 2026. No macro, syntax, notation, axiom, sorry.
-/
import Derived.Test.YtjfhpgomaahgoaaChecked
import GoSem.Claim
import GoSem.ClaimJoined
import GoSem.ClaimMapViews
import Derived.JoinedTies
import Derived.KernelRfl
namespace Go.Proofs.Ytjfhpgomaahgoaa
/- THE CELL 'sum', in the pinned program and in every row, IS THE sha256 OF THE DUMP (.gsa) THAT YtjfhpgomaahgoaaProg.lean LOADS. Nothing in Lean hashes anything: it is a label: what it is worth is what the hold of that sum in a sandbox is worth. -/
noncomputable def Try.pinned : Pinned := { name := "ytjfhpgomaahgoaa", sum := "11f5447eabb42bbed7fe953ae7dbdaf7e8ecddfd9ed9b8c281300a6efa2e7894", checked := Try.checked }
namespace Rows
def none {H : Type} : Left H := { results := [], args := [] }

/-- 'laws.FnExactValidPegs': WHATEVER THE INPUT: true; the input reads as it did. -/
def fnExactValidPegsSpec : ChangeSpec := { name := "fnExactValidPegs", fn := fun _ => fun
  | [d] => { results := [.lit (.bool true)], args := [d] }
  | _ => none }
def fnExactValidPegsRow : OpenClaim := { program := "ytjfhpgomaahgoaa", sum := "11f5447eabb42bbed7fe953ae7dbdaf7e8ecddfd9ed9b8c281300a6efa2e7894", func := "loop.example/g01326/laws.FnExactValidPegs", spec := "fnExactValidPegs", plainKeys := false, apart := false }
def FnExactValidPegsSaid : Prop := fnExactValidPegsRow.holds Try.pinned (OpenSpec.ofChange fnExactValidPegsSpec)

/-- ITS FALSE NEIGHBOUR: 'it returns false'. Refute it at one input. -/
def fnExactValidPegsWrong : ChangeSpec := { name := "fnExactValidPegs", fn := fun _ => fun
  | [d] => { results := [.lit (.bool false)], args := [d] }
  | _ => none }
def FnExactValidPegsWrongFalsely : Prop := fnExactValidPegsRow.holds Try.pinned (OpenSpec.ofChange fnExactValidPegsWrong)

/-- 'laws.FnExactValidHeights': WHATEVER THE INPUT: true; the input reads as it did. -/
def fnExactValidHeightsSpec : ChangeSpec := { name := "fnExactValidHeights", fn := fun _ => fun
  | [d1, d2] => { results := [.lit (.bool true)], args := [d1, d2] }
  | _ => none }
def fnExactValidHeightsRow : OpenClaim := { program := "ytjfhpgomaahgoaa", sum := "11f5447eabb42bbed7fe953ae7dbdaf7e8ecddfd9ed9b8c281300a6efa2e7894", func := "loop.example/g01326/laws.FnExactValidHeights", spec := "fnExactValidHeights", unfollowed := true, recurses := true, plainKeys := false, apart := false }
def FnExactValidHeightsSaid : Prop := fnExactValidHeightsRow.holds Try.pinned (OpenSpec.ofChange fnExactValidHeightsSpec)

/-- ITS FALSE NEIGHBOUR: 'it returns false'. Refute it at one input. -/
def fnExactValidHeightsWrong : ChangeSpec := { name := "fnExactValidHeights", fn := fun _ => fun
  | [d1, d2] => { results := [.lit (.bool false)], args := [d1, d2] }
  | _ => none }
def FnExactValidHeightsWrongFalsely : Prop := fnExactValidHeightsRow.holds Try.pinned (OpenSpec.ofChange fnExactValidHeightsWrong)

/-- 'laws.FnExactPegFor': WHATEVER THE INPUT: true; the input reads as it did. -/
def fnExactPegForSpec : ChangeSpec := { name := "fnExactPegFor", fn := fun _ => fun
  | [d1, d2] => { results := [.lit (.bool true)], args := [d1, d2] }
  | _ => none }
def fnExactPegForRow : OpenClaim := { program := "ytjfhpgomaahgoaa", sum := "11f5447eabb42bbed7fe953ae7dbdaf7e8ecddfd9ed9b8c281300a6efa2e7894", func := "loop.example/g01326/laws.FnExactPegFor", spec := "fnExactPegFor", unfollowed := true, recurses := true, plainKeys := false, apart := false }
def FnExactPegForSaid : Prop := fnExactPegForRow.holds Try.pinned (OpenSpec.ofChange fnExactPegForSpec)

/-- ITS FALSE NEIGHBOUR: 'it returns false'. Refute it at one input. -/
def fnExactPegForWrong : ChangeSpec := { name := "fnExactPegFor", fn := fun _ => fun
  | [d1, d2] => { results := [.lit (.bool false)], args := [d1, d2] }
  | _ => none }
def FnExactPegForWrongFalsely : Prop := fnExactPegForRow.holds Try.pinned (OpenSpec.ofChange fnExactPegForWrong)

/-- 'laws.FnExactTallOf': WHATEVER THE INPUT: true; the input reads as it did. -/
def fnExactTallOfSpec : ChangeSpec := { name := "fnExactTallOf", fn := fun _ => fun
  | [d1, d2, d3] => { results := [.lit (.bool true)], args := [d1, d2, d3] }
  | _ => none }
def fnExactTallOfRow : OpenClaim := { program := "ytjfhpgomaahgoaa", sum := "11f5447eabb42bbed7fe953ae7dbdaf7e8ecddfd9ed9b8c281300a6efa2e7894", func := "loop.example/g01326/laws.FnExactTallOf", spec := "fnExactTallOf", unfollowed := true, recurses := true, plainKeys := false, apart := false }
def FnExactTallOfSaid : Prop := fnExactTallOfRow.holds Try.pinned (OpenSpec.ofChange fnExactTallOfSpec)

/-- ITS FALSE NEIGHBOUR: 'it returns false'. Refute it at one input. -/
def fnExactTallOfWrong : ChangeSpec := { name := "fnExactTallOf", fn := fun _ => fun
  | [d1, d2, d3] => { results := [.lit (.bool false)], args := [d1, d2, d3] }
  | _ => none }
def FnExactTallOfWrongFalsely : Prop := fnExactTallOfRow.holds Try.pinned (OpenSpec.ofChange fnExactTallOfWrong)

/-- 'laws.FnExactSplitBooks': WHATEVER THE INPUT: true; the input reads as it did. -/
def fnExactSplitBooksSpec : ChangeSpec := { name := "fnExactSplitBooks", fn := fun _ => fun
  | [d1, d2] => { results := [.lit (.bool true)], args := [d1, d2] }
  | _ => none }
def fnExactSplitBooksRow : OpenClaim := { program := "ytjfhpgomaahgoaa", sum := "11f5447eabb42bbed7fe953ae7dbdaf7e8ecddfd9ed9b8c281300a6efa2e7894", func := "loop.example/g01326/laws.FnExactSplitBooks", spec := "fnExactSplitBooks", plainKeys := false, apart := false }
def FnExactSplitBooksSaid : Prop := fnExactSplitBooksRow.holds Try.pinned (OpenSpec.ofChange fnExactSplitBooksSpec)

/-- ITS FALSE NEIGHBOUR: 'it returns false'. Refute it at one input. -/
def fnExactSplitBooksWrong : ChangeSpec := { name := "fnExactSplitBooks", fn := fun _ => fun
  | [d1, d2] => { results := [.lit (.bool false)], args := [d1, d2] }
  | _ => none }
def FnExactSplitBooksWrongFalsely : Prop := fnExactSplitBooksRow.holds Try.pinned (OpenSpec.ofChange fnExactSplitBooksWrong)

/-- 'laws.FnExactCaseFrom': WHATEVER THE INPUT: true; the input reads as it did. -/
def fnExactCaseFromSpec : ChangeSpec := { name := "fnExactCaseFrom", fn := fun _ => fun
  | [d1, d2, d3, d4, d5] => { results := [.lit (.bool true)], args := [d1, d2, d3, d4, d5] }
  | _ => none }
def fnExactCaseFromRow : OpenClaim := { program := "ytjfhpgomaahgoaa", sum := "11f5447eabb42bbed7fe953ae7dbdaf7e8ecddfd9ed9b8c281300a6efa2e7894", func := "loop.example/g01326/laws.FnExactCaseFrom", spec := "fnExactCaseFrom", unfollowed := true, recurses := true, plainKeys := false, apart := false }
def FnExactCaseFromSaid : Prop := fnExactCaseFromRow.holds Try.pinned (OpenSpec.ofChange fnExactCaseFromSpec)

/-- ITS FALSE NEIGHBOUR: 'it returns false'. Refute it at one input. -/
def fnExactCaseFromWrong : ChangeSpec := { name := "fnExactCaseFrom", fn := fun _ => fun
  | [d1, d2, d3, d4, d5] => { results := [.lit (.bool false)], args := [d1, d2, d3, d4, d5] }
  | _ => none }
def FnExactCaseFromWrongFalsely : Prop := fnExactCaseFromRow.holds Try.pinned (OpenSpec.ofChange fnExactCaseFromWrong)

/-- 'laws.FnExactHeightFor': WHATEVER THE INPUT: true; the input reads as it did. -/
def fnExactHeightForSpec : ChangeSpec := { name := "fnExactHeightFor", fn := fun _ => fun
  | [d1, d2, d3] => { results := [.lit (.bool true)], args := [d1, d2, d3] }
  | _ => none }
def fnExactHeightForRow : OpenClaim := { program := "ytjfhpgomaahgoaa", sum := "11f5447eabb42bbed7fe953ae7dbdaf7e8ecddfd9ed9b8c281300a6efa2e7894", func := "loop.example/g01326/laws.FnExactHeightFor", spec := "fnExactHeightFor", unfollowed := true, recurses := true, plainKeys := false, apart := false }
def FnExactHeightForSaid : Prop := fnExactHeightForRow.holds Try.pinned (OpenSpec.ofChange fnExactHeightForSpec)

/-- ITS FALSE NEIGHBOUR: 'it returns false'. Refute it at one input. -/
def fnExactHeightForWrong : ChangeSpec := { name := "fnExactHeightFor", fn := fun _ => fun
  | [d1, d2, d3] => { results := [.lit (.bool false)], args := [d1, d2, d3] }
  | _ => none }
def FnExactHeightForWrongFalsely : Prop := fnExactHeightForRow.holds Try.pinned (OpenSpec.ofChange fnExactHeightForWrong)

/-- 'laws.FnExactHeightsOf': WHATEVER THE INPUT: true; the input reads as it did. -/
def fnExactHeightsOfSpec : ChangeSpec := { name := "fnExactHeightsOf", fn := fun _ => fun
  | [d1, d2] => { results := [.lit (.bool true)], args := [d1, d2] }
  | _ => none }
def fnExactHeightsOfRow : OpenClaim := { program := "ytjfhpgomaahgoaa", sum := "11f5447eabb42bbed7fe953ae7dbdaf7e8ecddfd9ed9b8c281300a6efa2e7894", func := "loop.example/g01326/laws.FnExactHeightsOf", spec := "fnExactHeightsOf", unfollowed := true, recurses := true, plainKeys := false, apart := false }
def FnExactHeightsOfSaid : Prop := fnExactHeightsOfRow.holds Try.pinned (OpenSpec.ofChange fnExactHeightsOfSpec)

/-- ITS FALSE NEIGHBOUR: 'it returns false'. Refute it at one input. -/
def fnExactHeightsOfWrong : ChangeSpec := { name := "fnExactHeightsOf", fn := fun _ => fun
  | [d1, d2] => { results := [.lit (.bool false)], args := [d1, d2] }
  | _ => none }
def FnExactHeightsOfWrongFalsely : Prop := fnExactHeightsOfRow.holds Try.pinned (OpenSpec.ofChange fnExactHeightsOfWrong)

/-- 'laws.FnExactGroupBooks': WHATEVER THE INPUT: true; the input reads as it did. -/
def fnExactGroupBooksSpec : ChangeSpec := { name := "fnExactGroupBooks", fn := fun _ => fun
  | [d1, d2, d3] => { results := [.lit (.bool true)], args := [d1, d2, d3] }
  | _ => none }
def fnExactGroupBooksRow : OpenClaim := { program := "ytjfhpgomaahgoaa", sum := "11f5447eabb42bbed7fe953ae7dbdaf7e8ecddfd9ed9b8c281300a6efa2e7894", func := "loop.example/g01326/laws.FnExactGroupBooks", spec := "fnExactGroupBooks", unfollowed := true, recurses := true, plainKeys := false, apart := false }
def FnExactGroupBooksSaid : Prop := fnExactGroupBooksRow.holds Try.pinned (OpenSpec.ofChange fnExactGroupBooksSpec)

/-- ITS FALSE NEIGHBOUR: 'it returns false'. Refute it at one input. -/
def fnExactGroupBooksWrong : ChangeSpec := { name := "fnExactGroupBooks", fn := fun _ => fun
  | [d1, d2, d3] => { results := [.lit (.bool false)], args := [d1, d2, d3] }
  | _ => none }
def FnExactGroupBooksWrongFalsely : Prop := fnExactGroupBooksRow.holds Try.pinned (OpenSpec.ofChange fnExactGroupBooksWrong)

/-- 'laws.FnExactWasteOf': WHATEVER THE INPUT: true; the input reads as it did. -/
def fnExactWasteOfSpec : ChangeSpec := { name := "fnExactWasteOf", fn := fun _ => fun
  | [d1, d2, d3] => { results := [.lit (.bool true)], args := [d1, d2, d3] }
  | _ => none }
def fnExactWasteOfRow : OpenClaim := { program := "ytjfhpgomaahgoaa", sum := "11f5447eabb42bbed7fe953ae7dbdaf7e8ecddfd9ed9b8c281300a6efa2e7894", func := "loop.example/g01326/laws.FnExactWasteOf", spec := "fnExactWasteOf", unfollowed := true, recurses := true, plainKeys := false, apart := false }
def FnExactWasteOfSaid : Prop := fnExactWasteOfRow.holds Try.pinned (OpenSpec.ofChange fnExactWasteOfSpec)

/-- ITS FALSE NEIGHBOUR: 'it returns false'. Refute it at one input. -/
def fnExactWasteOfWrong : ChangeSpec := { name := "fnExactWasteOf", fn := fun _ => fun
  | [d1, d2, d3] => { results := [.lit (.bool false)], args := [d1, d2, d3] }
  | _ => none }
def FnExactWasteOfWrongFalsely : Prop := fnExactWasteOfRow.holds Try.pinned (OpenSpec.ofChange fnExactWasteOfWrong)

/-- 'laws.FnExactShelvesNeeded': WHATEVER THE INPUT: true; the input reads as it did. -/
def fnExactShelvesNeededSpec : ChangeSpec := { name := "fnExactShelvesNeeded", fn := fun _ => fun
  | [d1, d2, d3, d4] => { results := [.lit (.bool true)], args := [d1, d2, d3, d4] }
  | _ => none }
def fnExactShelvesNeededRow : OpenClaim := { program := "ytjfhpgomaahgoaa", sum := "11f5447eabb42bbed7fe953ae7dbdaf7e8ecddfd9ed9b8c281300a6efa2e7894", func := "loop.example/g01326/laws.FnExactShelvesNeeded", spec := "fnExactShelvesNeeded", unfollowed := true, recurses := true, plainKeys := false, apart := false }
def FnExactShelvesNeededSaid : Prop := fnExactShelvesNeededRow.holds Try.pinned (OpenSpec.ofChange fnExactShelvesNeededSpec)

/-- ITS FALSE NEIGHBOUR: 'it returns false'. Refute it at one input. -/
def fnExactShelvesNeededWrong : ChangeSpec := { name := "fnExactShelvesNeeded", fn := fun _ => fun
  | [d1, d2, d3, d4] => { results := [.lit (.bool false)], args := [d1, d2, d3, d4] }
  | _ => none }
def FnExactShelvesNeededWrongFalsely : Prop := fnExactShelvesNeededRow.holds Try.pinned (OpenSpec.ofChange fnExactShelvesNeededWrong)

/-- 'laws.FnExactShelvesBound': WHATEVER THE INPUT: true; the input reads as it did. -/
def fnExactShelvesBoundSpec : ChangeSpec := { name := "fnExactShelvesBound", fn := fun _ => fun
  | [d1, d2, d3, d4] => { results := [.lit (.bool true)], args := [d1, d2, d3, d4] }
  | _ => none }
def fnExactShelvesBoundRow : OpenClaim := { program := "ytjfhpgomaahgoaa", sum := "11f5447eabb42bbed7fe953ae7dbdaf7e8ecddfd9ed9b8c281300a6efa2e7894", func := "loop.example/g01326/laws.FnExactShelvesBound", spec := "fnExactShelvesBound", unfollowed := true, recurses := true, plainKeys := false, apart := false }
def FnExactShelvesBoundSaid : Prop := fnExactShelvesBoundRow.holds Try.pinned (OpenSpec.ofChange fnExactShelvesBoundSpec)

/-- ITS FALSE NEIGHBOUR: 'it returns false'. Refute it at one input. -/
def fnExactShelvesBoundWrong : ChangeSpec := { name := "fnExactShelvesBound", fn := fun _ => fun
  | [d1, d2, d3, d4] => { results := [.lit (.bool false)], args := [d1, d2, d3, d4] }
  | _ => none }
def FnExactShelvesBoundWrongFalsely : Prop := fnExactShelvesBoundRow.holds Try.pinned (OpenSpec.ofChange fnExactShelvesBoundWrong)

/- THE SECOND FORM. 'bulk': how many values and letters a reading holds, each counted each time it is reached (what is shared counts as often as it is met; a slice's spare places count too). A statement '..UptoSaid' is the law's where the arguments, and the package variables that the reading takes, are together of bulk at most 1048576: NARROWER than '..Said'. Prove '..Said' where nothing that the law and all that it calls make is longer than what came in: it says more and counts as full. Else prove '..UptoSaid'. A law counts once. -/
mutual
def uptoBulk {H : Type} : DataW H → Nat
  | .lit (.string bytes) => bytes.length + 1
  | .lit _ => 1
  | .nil => 1
  | .ptr d => uptoBulk d + 1
  | .slice elems spare => uptoBulkAll elems + uptoBulkAll spare + 1
  | .agg parts => uptoBulkAll parts + 1
  | .iface _ d => uptoBulk d + 1
  | .map entries => uptoBulkEntries entries + 1
  | .held _ => 1
def uptoBulkAll {H : Type} : List (DataW H) → Nat
  | [] => 0
  | d :: r => uptoBulk d + uptoBulkAll r
def uptoBulkEntries {H : Type} : List (Lit × DataW H) → Nat
  | [] => 0
  | x :: r => uptoBulkEntry x + uptoBulkEntries r
def uptoBulkEntry {H : Type} : Lit × DataW H → Nat
  | (.string bytes, d) => bytes.length + uptoBulk d + 1
  | (_, d) => uptoBulk d + 1
 end
def uptoSmall : (H : Type) → List (DataW H) → Bool := fun _ ds => decide (uptoBulkAll ds ≤ 1048576)
def OpenSpec.upto (s : _root_.Go.ChangeSpec) : _root_.Go.OpenSpec := { _root_.Go.OpenSpec.ofChange s with cond := some uptoSmall }

/-- 'laws.FnExactValidPegs', WHERE WHAT IT READS IS OF BULK AT MOST 1048576: true; the input reads as it did. -/
def fnExactValidPegsUptoRow : OpenClaim := { program := "ytjfhpgomaahgoaa", sum := "11f5447eabb42bbed7fe953ae7dbdaf7e8ecddfd9ed9b8c281300a6efa2e7894", func := "loop.example/g01326/laws.FnExactValidPegs", spec := "fnExactValidPegs", plainKeys := false, apart := false, narrowed := true }
def FnExactValidPegsUptoSaid : Prop := fnExactValidPegsUptoRow.holds Try.pinned (OpenSpec.upto fnExactValidPegsSpec)

/-- 'laws.FnExactValidHeights', WHERE WHAT IT READS IS OF BULK AT MOST 1048576: true; the input reads as it did. -/
def fnExactValidHeightsUptoRow : OpenClaim := { program := "ytjfhpgomaahgoaa", sum := "11f5447eabb42bbed7fe953ae7dbdaf7e8ecddfd9ed9b8c281300a6efa2e7894", func := "loop.example/g01326/laws.FnExactValidHeights", spec := "fnExactValidHeights", unfollowed := true, recurses := true, plainKeys := false, apart := false, narrowed := true }
def FnExactValidHeightsUptoSaid : Prop := fnExactValidHeightsUptoRow.holds Try.pinned (OpenSpec.upto fnExactValidHeightsSpec)

/-- 'laws.FnExactPegFor', WHERE WHAT IT READS IS OF BULK AT MOST 1048576: true; the input reads as it did. -/
def fnExactPegForUptoRow : OpenClaim := { program := "ytjfhpgomaahgoaa", sum := "11f5447eabb42bbed7fe953ae7dbdaf7e8ecddfd9ed9b8c281300a6efa2e7894", func := "loop.example/g01326/laws.FnExactPegFor", spec := "fnExactPegFor", unfollowed := true, recurses := true, plainKeys := false, apart := false, narrowed := true }
def FnExactPegForUptoSaid : Prop := fnExactPegForUptoRow.holds Try.pinned (OpenSpec.upto fnExactPegForSpec)

/-- 'laws.FnExactTallOf', WHERE WHAT IT READS IS OF BULK AT MOST 1048576: true; the input reads as it did. -/
def fnExactTallOfUptoRow : OpenClaim := { program := "ytjfhpgomaahgoaa", sum := "11f5447eabb42bbed7fe953ae7dbdaf7e8ecddfd9ed9b8c281300a6efa2e7894", func := "loop.example/g01326/laws.FnExactTallOf", spec := "fnExactTallOf", unfollowed := true, recurses := true, plainKeys := false, apart := false, narrowed := true }
def FnExactTallOfUptoSaid : Prop := fnExactTallOfUptoRow.holds Try.pinned (OpenSpec.upto fnExactTallOfSpec)

/-- 'laws.FnExactSplitBooks', WHERE WHAT IT READS IS OF BULK AT MOST 1048576: true; the input reads as it did. -/
def fnExactSplitBooksUptoRow : OpenClaim := { program := "ytjfhpgomaahgoaa", sum := "11f5447eabb42bbed7fe953ae7dbdaf7e8ecddfd9ed9b8c281300a6efa2e7894", func := "loop.example/g01326/laws.FnExactSplitBooks", spec := "fnExactSplitBooks", plainKeys := false, apart := false, narrowed := true }
def FnExactSplitBooksUptoSaid : Prop := fnExactSplitBooksUptoRow.holds Try.pinned (OpenSpec.upto fnExactSplitBooksSpec)

/-- 'laws.FnExactCaseFrom', WHERE WHAT IT READS IS OF BULK AT MOST 1048576: true; the input reads as it did. -/
def fnExactCaseFromUptoRow : OpenClaim := { program := "ytjfhpgomaahgoaa", sum := "11f5447eabb42bbed7fe953ae7dbdaf7e8ecddfd9ed9b8c281300a6efa2e7894", func := "loop.example/g01326/laws.FnExactCaseFrom", spec := "fnExactCaseFrom", unfollowed := true, recurses := true, plainKeys := false, apart := false, narrowed := true }
def FnExactCaseFromUptoSaid : Prop := fnExactCaseFromUptoRow.holds Try.pinned (OpenSpec.upto fnExactCaseFromSpec)

/-- 'laws.FnExactHeightFor', WHERE WHAT IT READS IS OF BULK AT MOST 1048576: true; the input reads as it did. -/
def fnExactHeightForUptoRow : OpenClaim := { program := "ytjfhpgomaahgoaa", sum := "11f5447eabb42bbed7fe953ae7dbdaf7e8ecddfd9ed9b8c281300a6efa2e7894", func := "loop.example/g01326/laws.FnExactHeightFor", spec := "fnExactHeightFor", unfollowed := true, recurses := true, plainKeys := false, apart := false, narrowed := true }
def FnExactHeightForUptoSaid : Prop := fnExactHeightForUptoRow.holds Try.pinned (OpenSpec.upto fnExactHeightForSpec)

/-- 'laws.FnExactHeightsOf', WHERE WHAT IT READS IS OF BULK AT MOST 1048576: true; the input reads as it did. -/
def fnExactHeightsOfUptoRow : OpenClaim := { program := "ytjfhpgomaahgoaa", sum := "11f5447eabb42bbed7fe953ae7dbdaf7e8ecddfd9ed9b8c281300a6efa2e7894", func := "loop.example/g01326/laws.FnExactHeightsOf", spec := "fnExactHeightsOf", unfollowed := true, recurses := true, plainKeys := false, apart := false, narrowed := true }
def FnExactHeightsOfUptoSaid : Prop := fnExactHeightsOfUptoRow.holds Try.pinned (OpenSpec.upto fnExactHeightsOfSpec)

/-- 'laws.FnExactGroupBooks', WHERE WHAT IT READS IS OF BULK AT MOST 1048576: true; the input reads as it did. -/
def fnExactGroupBooksUptoRow : OpenClaim := { program := "ytjfhpgomaahgoaa", sum := "11f5447eabb42bbed7fe953ae7dbdaf7e8ecddfd9ed9b8c281300a6efa2e7894", func := "loop.example/g01326/laws.FnExactGroupBooks", spec := "fnExactGroupBooks", unfollowed := true, recurses := true, plainKeys := false, apart := false, narrowed := true }
def FnExactGroupBooksUptoSaid : Prop := fnExactGroupBooksUptoRow.holds Try.pinned (OpenSpec.upto fnExactGroupBooksSpec)

/-- 'laws.FnExactWasteOf', WHERE WHAT IT READS IS OF BULK AT MOST 1048576: true; the input reads as it did. -/
def fnExactWasteOfUptoRow : OpenClaim := { program := "ytjfhpgomaahgoaa", sum := "11f5447eabb42bbed7fe953ae7dbdaf7e8ecddfd9ed9b8c281300a6efa2e7894", func := "loop.example/g01326/laws.FnExactWasteOf", spec := "fnExactWasteOf", unfollowed := true, recurses := true, plainKeys := false, apart := false, narrowed := true }
def FnExactWasteOfUptoSaid : Prop := fnExactWasteOfUptoRow.holds Try.pinned (OpenSpec.upto fnExactWasteOfSpec)

/-- 'laws.FnExactShelvesNeeded', WHERE WHAT IT READS IS OF BULK AT MOST 1048576: true; the input reads as it did. -/
def fnExactShelvesNeededUptoRow : OpenClaim := { program := "ytjfhpgomaahgoaa", sum := "11f5447eabb42bbed7fe953ae7dbdaf7e8ecddfd9ed9b8c281300a6efa2e7894", func := "loop.example/g01326/laws.FnExactShelvesNeeded", spec := "fnExactShelvesNeeded", unfollowed := true, recurses := true, plainKeys := false, apart := false, narrowed := true }
def FnExactShelvesNeededUptoSaid : Prop := fnExactShelvesNeededUptoRow.holds Try.pinned (OpenSpec.upto fnExactShelvesNeededSpec)

/-- 'laws.FnExactShelvesBound', WHERE WHAT IT READS IS OF BULK AT MOST 1048576: true; the input reads as it did. -/
def fnExactShelvesBoundUptoRow : OpenClaim := { program := "ytjfhpgomaahgoaa", sum := "11f5447eabb42bbed7fe953ae7dbdaf7e8ecddfd9ed9b8c281300a6efa2e7894", func := "loop.example/g01326/laws.FnExactShelvesBound", spec := "fnExactShelvesBound", unfollowed := true, recurses := true, plainKeys := false, apart := false, narrowed := true }
def FnExactShelvesBoundUptoSaid : Prop := fnExactShelvesBoundUptoRow.holds Try.pinned (OpenSpec.upto fnExactShelvesBoundSpec)

end Rows
end Go.Proofs.Ytjfhpgomaahgoaa
