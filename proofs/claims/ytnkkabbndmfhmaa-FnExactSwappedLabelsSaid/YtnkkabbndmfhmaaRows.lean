/-
  No cell of these rows narrows 'for every input' (looked for: loops, veiled, ifaces, maps, wideKeys, modest, calm, conditions, laid).
  DERIVED. THE GIVEN ROWS OF THIS SEAT. 6 by the template 'for every input the law returns true; each argument reads behind the call as it read before'; 0 by the template 'total and deterministic' (their statements: YtnkkabbndmfhmaaTotals.lean).
  GIVEN WITH THE SEED: the statements are not yours to turn. If you find one false, say at which input.
  Laid BY PROGRAM, IN A SANDBOX (cutbox-rows.mjs): the forced cells as the released guide's own fill.sh prints them over the translation 2b95d72edd987658… (all of the seat's roots in one cut). By AI agents, Wed Nov 11 2026. No macro, syntax, notation, axiom, sorry.
-/
import Derived.Test.YtnkkabbndmfhmaaChecked
import GoSem.Claim
import GoSem.ClaimJoined
import GoSem.ClaimMapViews
import Derived.JoinedTies
import Derived.KernelRfl
namespace Go.Proofs.Ytnkkabbndmfhmaa
/- THE CELL 'sum', in the pinned program and in every row, IS THE sha256 OF THE DUMP (.gsa) THAT YtnkkabbndmfhmaaProg.lean LOADS. Nothing in Lean hashes anything: it is a label: what it is worth is what the hold of that sum in a sandbox is worth. -/
noncomputable def Try.pinned : Pinned := { name := "ytnkkabbndmfhmaa", sum := "2b95d72edd9876580a0de01c86b2b67d589b7e85ef2fc9f4f704ee019a61b71d", checked := Try.checked }
namespace Rows
def none {H : Type} : Left H := { results := [], args := [] }

/-- 'laws.FnExactSortBooks': WHATEVER THE INPUT: true; the input reads as it did. -/
def fnExactSortBooksSpec : ChangeSpec := { name := "fnExactSortBooks", fn := fun _ => fun
  | [d1, d2] => { results := [.lit (.bool true)], args := [d1, d2] }
  | _ => none }
def fnExactSortBooksRow : OpenClaim := { program := "ytnkkabbndmfhmaa", sum := "2b95d72edd9876580a0de01c86b2b67d589b7e85ef2fc9f4f704ee019a61b71d", func := "loop.example/g01326/laws.FnExactSortBooks", spec := "fnExactSortBooks", unfollowed := true, recurses := true, plainKeys := false, apart := false }
def FnExactSortBooksSaid : Prop := fnExactSortBooksRow.holds Try.pinned (OpenSpec.ofChange fnExactSortBooksSpec)

/-- ITS FALSE NEIGHBOUR: 'it returns false'. Refute it at one input. -/
def fnExactSortBooksWrong : ChangeSpec := { name := "fnExactSortBooks", fn := fun _ => fun
  | [d1, d2] => { results := [.lit (.bool false)], args := [d1, d2] }
  | _ => none }
def FnExactSortBooksWrongFalsely : Prop := fnExactSortBooksRow.holds Try.pinned (OpenSpec.ofChange fnExactSortBooksWrong)

/-- 'laws.FnExactShortestWalk': WHATEVER THE INPUT: true; the input reads as it did. -/
def fnExactShortestWalkSpec : ChangeSpec := { name := "fnExactShortestWalk", fn := fun _ => fun
  | [d1, d2] => { results := [.lit (.bool true)], args := [d1, d2] }
  | _ => none }
def fnExactShortestWalkRow : OpenClaim := { program := "ytnkkabbndmfhmaa", sum := "2b95d72edd9876580a0de01c86b2b67d589b7e85ef2fc9f4f704ee019a61b71d", func := "loop.example/g01326/laws.FnExactShortestWalk", spec := "fnExactShortestWalk", unfollowed := true, recurses := true, plainKeys := false, apart := false }
def FnExactShortestWalkSaid : Prop := fnExactShortestWalkRow.holds Try.pinned (OpenSpec.ofChange fnExactShortestWalkSpec)

/-- ITS FALSE NEIGHBOUR: 'it returns false'. Refute it at one input. -/
def fnExactShortestWalkWrong : ChangeSpec := { name := "fnExactShortestWalk", fn := fun _ => fun
  | [d1, d2] => { results := [.lit (.bool false)], args := [d1, d2] }
  | _ => none }
def FnExactShortestWalkWrongFalsely : Prop := fnExactShortestWalkRow.holds Try.pinned (OpenSpec.ofChange fnExactShortestWalkWrong)

/-- 'laws.FnExactNearLabels': WHATEVER THE INPUT: true; the input reads as it did. -/
def fnExactNearLabelsSpec : ChangeSpec := { name := "fnExactNearLabels", fn := fun _ => fun
  | [d] => { results := [.lit (.bool true)], args := [d] }
  | _ => none }
def fnExactNearLabelsRow : OpenClaim := { program := "ytnkkabbndmfhmaa", sum := "2b95d72edd9876580a0de01c86b2b67d589b7e85ef2fc9f4f704ee019a61b71d", func := "loop.example/g01326/laws.FnExactNearLabels", spec := "fnExactNearLabels", unfollowed := true, recurses := true, plainKeys := false, apart := false }
def FnExactNearLabelsSaid : Prop := fnExactNearLabelsRow.holds Try.pinned (OpenSpec.ofChange fnExactNearLabelsSpec)

/-- ITS FALSE NEIGHBOUR: 'it returns false'. Refute it at one input. -/
def fnExactNearLabelsWrong : ChangeSpec := { name := "fnExactNearLabels", fn := fun _ => fun
  | [d] => { results := [.lit (.bool false)], args := [d] }
  | _ => none }
def FnExactNearLabelsWrongFalsely : Prop := fnExactNearLabelsRow.holds Try.pinned (OpenSpec.ofChange fnExactNearLabelsWrong)

/-- 'laws.FnExactSwappedLabels': WHATEVER THE INPUT: true; the input reads as it did. -/
def fnExactSwappedLabelsSpec : ChangeSpec := { name := "fnExactSwappedLabels", fn := fun _ => fun
  | [d] => { results := [.lit (.bool true)], args := [d] }
  | _ => none }
def fnExactSwappedLabelsRow : OpenClaim := { program := "ytnkkabbndmfhmaa", sum := "2b95d72edd9876580a0de01c86b2b67d589b7e85ef2fc9f4f704ee019a61b71d", func := "loop.example/g01326/laws.FnExactSwappedLabels", spec := "fnExactSwappedLabels", unfollowed := true, recurses := true, plainKeys := false, apart := false }
def FnExactSwappedLabelsSaid : Prop := fnExactSwappedLabelsRow.holds Try.pinned (OpenSpec.ofChange fnExactSwappedLabelsSpec)

/-- ITS FALSE NEIGHBOUR: 'it returns false'. Refute it at one input. -/
def fnExactSwappedLabelsWrong : ChangeSpec := { name := "fnExactSwappedLabels", fn := fun _ => fun
  | [d] => { results := [.lit (.bool false)], args := [d] }
  | _ => none }
def FnExactSwappedLabelsWrongFalsely : Prop := fnExactSwappedLabelsRow.holds Try.pinned (OpenSpec.ofChange fnExactSwappedLabelsWrong)

/-- 'laws.FnExactHeightsOf': WHATEVER THE INPUT: true; the input reads as it did. -/
def fnExactHeightsOfSpec : ChangeSpec := { name := "fnExactHeightsOf", fn := fun _ => fun
  | [d1, d2] => { results := [.lit (.bool true)], args := [d1, d2] }
  | _ => none }
def fnExactHeightsOfRow : OpenClaim := { program := "ytnkkabbndmfhmaa", sum := "2b95d72edd9876580a0de01c86b2b67d589b7e85ef2fc9f4f704ee019a61b71d", func := "loop.example/g01326/laws.FnExactHeightsOf", spec := "fnExactHeightsOf", unfollowed := true, recurses := true, plainKeys := false, apart := false }
def FnExactHeightsOfSaid : Prop := fnExactHeightsOfRow.holds Try.pinned (OpenSpec.ofChange fnExactHeightsOfSpec)

/-- ITS FALSE NEIGHBOUR: 'it returns false'. Refute it at one input. -/
def fnExactHeightsOfWrong : ChangeSpec := { name := "fnExactHeightsOf", fn := fun _ => fun
  | [d1, d2] => { results := [.lit (.bool false)], args := [d1, d2] }
  | _ => none }
def FnExactHeightsOfWrongFalsely : Prop := fnExactHeightsOfRow.holds Try.pinned (OpenSpec.ofChange fnExactHeightsOfWrong)

/-- 'laws.FnExactTableOf': WHATEVER THE INPUT: true; the input reads as it did. -/
def fnExactTableOfSpec : ChangeSpec := { name := "fnExactTableOf", fn := fun _ => fun
  | [d1, d2] => { results := [.lit (.bool true)], args := [d1, d2] }
  | _ => none }
def fnExactTableOfRow : OpenClaim := { program := "ytnkkabbndmfhmaa", sum := "2b95d72edd9876580a0de01c86b2b67d589b7e85ef2fc9f4f704ee019a61b71d", func := "loop.example/g01326/laws.FnExactTableOf", spec := "fnExactTableOf", unfollowed := true, recurses := true, plainKeys := false, apart := false }
def FnExactTableOfSaid : Prop := fnExactTableOfRow.holds Try.pinned (OpenSpec.ofChange fnExactTableOfSpec)

/-- ITS FALSE NEIGHBOUR: 'it returns false'. Refute it at one input. -/
def fnExactTableOfWrong : ChangeSpec := { name := "fnExactTableOf", fn := fun _ => fun
  | [d1, d2] => { results := [.lit (.bool false)], args := [d1, d2] }
  | _ => none }
def FnExactTableOfWrongFalsely : Prop := fnExactTableOfRow.holds Try.pinned (OpenSpec.ofChange fnExactTableOfWrong)

/- THE SECOND FORM. 'bulk': how many values and letters a reading holds, each counted each time it is reached (what is shared counts as often as it is met; a slice's spare places count too). A statement '..UptoSaid' is the law's where the arguments, and the package variables that the reading takes, are together of bulk at most 1048576: NARROWER than '..Said'. Prove '..Said' where nothing that the law and all that it calls make is longer than what came in: it says more and counts as full. Else prove '..UptoSaid'. A law counts once. -/
mutual
def uptoBulk {H : Type} : DataW H → Nat
  | .lit (.string bytes) => bytes.length + 1
  | .lit _ => 1
  | .nil => 1
  | .ptr d => uptoBulk d + 1
  | .slice elems spare => uptoBulkAll elems + uptoBulkAll spare + 1
  | .agg parts => uptoBulkAll parts + 1
  | .iface _ d => uptoBulk d + 1
  | .map entries => uptoBulkEntries entries + 1
  | .held _ => 1
def uptoBulkAll {H : Type} : List (DataW H) → Nat
  | [] => 0
  | d :: r => uptoBulk d + uptoBulkAll r
def uptoBulkEntries {H : Type} : List (Lit × DataW H) → Nat
  | [] => 0
  | x :: r => uptoBulkEntry x + uptoBulkEntries r
def uptoBulkEntry {H : Type} : Lit × DataW H → Nat
  | (.string bytes, d) => bytes.length + uptoBulk d + 1
  | (_, d) => uptoBulk d + 1
 end
def uptoSmall : (H : Type) → List (DataW H) → Bool := fun _ ds => decide (uptoBulkAll ds ≤ 1048576)
def OpenSpec.upto (s : _root_.Go.ChangeSpec) : _root_.Go.OpenSpec := { _root_.Go.OpenSpec.ofChange s with cond := some uptoSmall }

/-- 'laws.FnExactSortBooks', WHERE WHAT IT READS IS OF BULK AT MOST 1048576: true; the input reads as it did. -/
def fnExactSortBooksUptoRow : OpenClaim := { program := "ytnkkabbndmfhmaa", sum := "2b95d72edd9876580a0de01c86b2b67d589b7e85ef2fc9f4f704ee019a61b71d", func := "loop.example/g01326/laws.FnExactSortBooks", spec := "fnExactSortBooks", unfollowed := true, recurses := true, plainKeys := false, apart := false, narrowed := true }
def FnExactSortBooksUptoSaid : Prop := fnExactSortBooksUptoRow.holds Try.pinned (OpenSpec.upto fnExactSortBooksSpec)

/-- 'laws.FnExactShortestWalk', WHERE WHAT IT READS IS OF BULK AT MOST 1048576: true; the input reads as it did. -/
def fnExactShortestWalkUptoRow : OpenClaim := { program := "ytnkkabbndmfhmaa", sum := "2b95d72edd9876580a0de01c86b2b67d589b7e85ef2fc9f4f704ee019a61b71d", func := "loop.example/g01326/laws.FnExactShortestWalk", spec := "fnExactShortestWalk", unfollowed := true, recurses := true, plainKeys := false, apart := false, narrowed := true }
def FnExactShortestWalkUptoSaid : Prop := fnExactShortestWalkUptoRow.holds Try.pinned (OpenSpec.upto fnExactShortestWalkSpec)

/-- 'laws.FnExactNearLabels', WHERE WHAT IT READS IS OF BULK AT MOST 1048576: true; the input reads as it did. -/
def fnExactNearLabelsUptoRow : OpenClaim := { program := "ytnkkabbndmfhmaa", sum := "2b95d72edd9876580a0de01c86b2b67d589b7e85ef2fc9f4f704ee019a61b71d", func := "loop.example/g01326/laws.FnExactNearLabels", spec := "fnExactNearLabels", unfollowed := true, recurses := true, plainKeys := false, apart := false, narrowed := true }
def FnExactNearLabelsUptoSaid : Prop := fnExactNearLabelsUptoRow.holds Try.pinned (OpenSpec.upto fnExactNearLabelsSpec)

/-- 'laws.FnExactSwappedLabels', WHERE WHAT IT READS IS OF BULK AT MOST 1048576: true; the input reads as it did. -/
def fnExactSwappedLabelsUptoRow : OpenClaim := { program := "ytnkkabbndmfhmaa", sum := "2b95d72edd9876580a0de01c86b2b67d589b7e85ef2fc9f4f704ee019a61b71d", func := "loop.example/g01326/laws.FnExactSwappedLabels", spec := "fnExactSwappedLabels", unfollowed := true, recurses := true, plainKeys := false, apart := false, narrowed := true }
def FnExactSwappedLabelsUptoSaid : Prop := fnExactSwappedLabelsUptoRow.holds Try.pinned (OpenSpec.upto fnExactSwappedLabelsSpec)

/-- 'laws.FnExactHeightsOf', WHERE WHAT IT READS IS OF BULK AT MOST 1048576: true; the input reads as it did. -/
def fnExactHeightsOfUptoRow : OpenClaim := { program := "ytnkkabbndmfhmaa", sum := "2b95d72edd9876580a0de01c86b2b67d589b7e85ef2fc9f4f704ee019a61b71d", func := "loop.example/g01326/laws.FnExactHeightsOf", spec := "fnExactHeightsOf", unfollowed := true, recurses := true, plainKeys := false, apart := false, narrowed := true }
def FnExactHeightsOfUptoSaid : Prop := fnExactHeightsOfUptoRow.holds Try.pinned (OpenSpec.upto fnExactHeightsOfSpec)

/-- 'laws.FnExactTableOf', WHERE WHAT IT READS IS OF BULK AT MOST 1048576: true; the input reads as it did. -/
def fnExactTableOfUptoRow : OpenClaim := { program := "ytnkkabbndmfhmaa", sum := "2b95d72edd9876580a0de01c86b2b67d589b7e85ef2fc9f4f704ee019a61b71d", func := "loop.example/g01326/laws.FnExactTableOf", spec := "fnExactTableOf", unfollowed := true, recurses := true, plainKeys := false, apart := false, narrowed := true }
def FnExactTableOfUptoSaid : Prop := fnExactTableOfUptoRow.holds Try.pinned (OpenSpec.upto fnExactTableOfSpec)

end Rows
end Go.Proofs.Ytnkkabbndmfhmaa
