/-
  No cell of these rows narrows 'for every input' (looked for: loops, veiled, ifaces, maps, wideKeys, modest, calm, conditions, laid).
  DERIVED. THE GIVEN ROWS OF THIS SEAT. 12 by the template 'for every input the law returns true; each argument reads behind the call as it read before'; 0 by the template 'total and deterministic' (their statements: YtgfffbnodinkcaaTotals.lean).
  GIVEN WITH THE SEED: the statements are not yours to turn. If you find one false, say at which input.
  Laid BY PROGRAM, IN A SANDBOX (cutbox-rows.mjs): the forced cells as the released guide's own fill.sh prints them over the translation 711a34d4c3347626… (all of the seat's roots in one cut). By AI agents, Wed Nov 11 2026. No macro, syntax, notation, axiom, sorry.
-/
import Derived.Test.YtgfffbnodinkcaaChecked
import GoSem.Claim
import GoSem.ClaimJoined
import GoSem.ClaimMapViews
import Derived.JoinedTies
import Derived.KernelRfl
namespace Go.Proofs.Ytgfffbnodinkcaa
/- THE CELL 'sum', in the pinned program and in every row, IS THE sha256 OF THE DUMP (.gsa) THAT YtgfffbnodinkcaaProg.lean LOADS. Nothing in Lean hashes anything: it is a label: what it is worth is what the hold of that sum in a sandbox is worth. -/
noncomputable def Try.pinned : Pinned := { name := "ytgfffbnodinkcaa", sum := "711a34d4c3347626d181b48f8e5fa1034ad9651ed837ac3fbc4dbed957c40847", checked := Try.checked }
namespace Rows
def none {H : Type} : Left H := { results := [], args := [] }

/-- 'laws.FnExactWalkLength': WHATEVER THE INPUT: true; the input reads as it did. -/
def fnExactWalkLengthSpec : ChangeSpec := { name := "fnExactWalkLength", fn := fun _ => fun
  | [d1, d2] => { results := [.lit (.bool true)], args := [d1, d2] }
  | _ => none }
def fnExactWalkLengthRow : OpenClaim := { program := "ytgfffbnodinkcaa", sum := "711a34d4c3347626d181b48f8e5fa1034ad9651ed837ac3fbc4dbed957c40847", func := "loop.example/g01326/laws.FnExactWalkLength", spec := "fnExactWalkLength", unfollowed := true, recurses := true, plainKeys := false, apart := false }
def FnExactWalkLengthSaid : Prop := fnExactWalkLengthRow.holds Try.pinned (OpenSpec.ofChange fnExactWalkLengthSpec)

/-- ITS FALSE NEIGHBOUR: 'it returns false'. Refute it at one input. -/
def fnExactWalkLengthWrong : ChangeSpec := { name := "fnExactWalkLength", fn := fun _ => fun
  | [d1, d2] => { results := [.lit (.bool false)], args := [d1, d2] }
  | _ => none }
def FnExactWalkLengthWrongFalsely : Prop := fnExactWalkLengthRow.holds Try.pinned (OpenSpec.ofChange fnExactWalkLengthWrong)

/-- 'laws.FnExactHeaviestShelf': WHATEVER THE INPUT: true; the input reads as it did. -/
def fnExactHeaviestShelfSpec : ChangeSpec := { name := "fnExactHeaviestShelf", fn := fun _ => fun
  | [d1, d2] => { results := [.lit (.bool true)], args := [d1, d2] }
  | _ => none }
def fnExactHeaviestShelfRow : OpenClaim := { program := "ytgfffbnodinkcaa", sum := "711a34d4c3347626d181b48f8e5fa1034ad9651ed837ac3fbc4dbed957c40847", func := "loop.example/g01326/laws.FnExactHeaviestShelf", spec := "fnExactHeaviestShelf", plainKeys := false, apart := false }
def FnExactHeaviestShelfSaid : Prop := fnExactHeaviestShelfRow.holds Try.pinned (OpenSpec.ofChange fnExactHeaviestShelfSpec)

/-- ITS FALSE NEIGHBOUR: 'it returns false'. Refute it at one input. -/
def fnExactHeaviestShelfWrong : ChangeSpec := { name := "fnExactHeaviestShelf", fn := fun _ => fun
  | [d1, d2] => { results := [.lit (.bool false)], args := [d1, d2] }
  | _ => none }
def FnExactHeaviestShelfWrongFalsely : Prop := fnExactHeaviestShelfRow.holds Try.pinned (OpenSpec.ofChange fnExactHeaviestShelfWrong)

/-- 'laws.FnExactWithoutBooks': WHATEVER THE INPUT: true; the input reads as it did. -/
def fnExactWithoutBooksSpec : ChangeSpec := { name := "fnExactWithoutBooks", fn := fun _ => fun
  | [d1, d2] => { results := [.lit (.bool true)], args := [d1, d2] }
  | _ => none }
def fnExactWithoutBooksRow : OpenClaim := { program := "ytgfffbnodinkcaa", sum := "711a34d4c3347626d181b48f8e5fa1034ad9651ed837ac3fbc4dbed957c40847", func := "loop.example/g01326/laws.FnExactWithoutBooks", spec := "fnExactWithoutBooks", plainKeys := false, apart := false }
def FnExactWithoutBooksSaid : Prop := fnExactWithoutBooksRow.holds Try.pinned (OpenSpec.ofChange fnExactWithoutBooksSpec)

/-- ITS FALSE NEIGHBOUR: 'it returns false'. Refute it at one input. -/
def fnExactWithoutBooksWrong : ChangeSpec := { name := "fnExactWithoutBooks", fn := fun _ => fun
  | [d1, d2] => { results := [.lit (.bool false)], args := [d1, d2] }
  | _ => none }
def FnExactWithoutBooksWrongFalsely : Prop := fnExactWithoutBooksRow.holds Try.pinned (OpenSpec.ofChange fnExactWithoutBooksWrong)

/-- 'laws.FnExactOutOfPlace': WHATEVER THE INPUT: true; the input reads as it did. -/
def fnExactOutOfPlaceSpec : ChangeSpec := { name := "fnExactOutOfPlace", fn := fun _ => fun
  | [d] => { results := [.lit (.bool true)], args := [d] }
  | _ => none }
def fnExactOutOfPlaceRow : OpenClaim := { program := "ytgfffbnodinkcaa", sum := "711a34d4c3347626d181b48f8e5fa1034ad9651ed837ac3fbc4dbed957c40847", func := "loop.example/g01326/laws.FnExactOutOfPlace", spec := "fnExactOutOfPlace", unfollowed := true, recurses := true, plainKeys := false, apart := false }
def FnExactOutOfPlaceSaid : Prop := fnExactOutOfPlaceRow.holds Try.pinned (OpenSpec.ofChange fnExactOutOfPlaceSpec)

/-- ITS FALSE NEIGHBOUR: 'it returns false'. Refute it at one input. -/
def fnExactOutOfPlaceWrong : ChangeSpec := { name := "fnExactOutOfPlace", fn := fun _ => fun
  | [d] => { results := [.lit (.bool false)], args := [d] }
  | _ => none }
def FnExactOutOfPlaceWrongFalsely : Prop := fnExactOutOfPlaceRow.holds Try.pinned (OpenSpec.ofChange fnExactOutOfPlaceWrong)

/-- 'laws.FnExactLabelOf': WHATEVER THE INPUT: true; the input reads as it did. -/
def fnExactLabelOfSpec : ChangeSpec := { name := "fnExactLabelOf", fn := fun _ => fun
  | [d] => { results := [.lit (.bool true)], args := [d] }
  | _ => none }
def fnExactLabelOfRow : OpenClaim := { program := "ytgfffbnodinkcaa", sum := "711a34d4c3347626d181b48f8e5fa1034ad9651ed837ac3fbc4dbed957c40847", func := "loop.example/g01326/laws.FnExactLabelOf", spec := "fnExactLabelOf", unfollowed := true, recurses := true, plainKeys := false, apart := false }
def FnExactLabelOfSaid : Prop := fnExactLabelOfRow.holds Try.pinned (OpenSpec.ofChange fnExactLabelOfSpec)

/-- ITS FALSE NEIGHBOUR: 'it returns false'. Refute it at one input. -/
def fnExactLabelOfWrong : ChangeSpec := { name := "fnExactLabelOf", fn := fun _ => fun
  | [d] => { results := [.lit (.bool false)], args := [d] }
  | _ => none }
def FnExactLabelOfWrongFalsely : Prop := fnExactLabelOfRow.holds Try.pinned (OpenSpec.ofChange fnExactLabelOfWrong)

/-- 'laws.FnExactCheckLabel': WHATEVER THE INPUT: true; the input reads as it did. -/
def fnExactCheckLabelSpec : ChangeSpec := { name := "fnExactCheckLabel", fn := fun _ => fun
  | [d] => { results := [.lit (.bool true)], args := [d] }
  | _ => none }
def fnExactCheckLabelRow : OpenClaim := { program := "ytgfffbnodinkcaa", sum := "711a34d4c3347626d181b48f8e5fa1034ad9651ed837ac3fbc4dbed957c40847", func := "loop.example/g01326/laws.FnExactCheckLabel", spec := "fnExactCheckLabel", unfollowed := true, recurses := true, plainKeys := false, apart := false }
def FnExactCheckLabelSaid : Prop := fnExactCheckLabelRow.holds Try.pinned (OpenSpec.ofChange fnExactCheckLabelSpec)

/-- ITS FALSE NEIGHBOUR: 'it returns false'. Refute it at one input. -/
def fnExactCheckLabelWrong : ChangeSpec := { name := "fnExactCheckLabel", fn := fun _ => fun
  | [d] => { results := [.lit (.bool false)], args := [d] }
  | _ => none }
def FnExactCheckLabelWrongFalsely : Prop := fnExactCheckLabelRow.holds Try.pinned (OpenSpec.ofChange fnExactCheckLabelWrong)

/-- 'laws.FnExactReadLabel': WHATEVER THE INPUT: true; the input reads as it did. -/
def fnExactReadLabelSpec : ChangeSpec := { name := "fnExactReadLabel", fn := fun _ => fun
  | [d] => { results := [.lit (.bool true)], args := [d] }
  | _ => none }
def fnExactReadLabelRow : OpenClaim := { program := "ytgfffbnodinkcaa", sum := "711a34d4c3347626d181b48f8e5fa1034ad9651ed837ac3fbc4dbed957c40847", func := "loop.example/g01326/laws.FnExactReadLabel", spec := "fnExactReadLabel", unfollowed := true, recurses := true, plainKeys := false, apart := false }
def FnExactReadLabelSaid : Prop := fnExactReadLabelRow.holds Try.pinned (OpenSpec.ofChange fnExactReadLabelSpec)

/-- ITS FALSE NEIGHBOUR: 'it returns false'. Refute it at one input. -/
def fnExactReadLabelWrong : ChangeSpec := { name := "fnExactReadLabel", fn := fun _ => fun
  | [d] => { results := [.lit (.bool false)], args := [d] }
  | _ => none }
def FnExactReadLabelWrongFalsely : Prop := fnExactReadLabelRow.holds Try.pinned (OpenSpec.ofChange fnExactReadLabelWrong)

/-- 'laws.FnExactShortestWalk': WHATEVER THE INPUT: true; the input reads as it did. -/
def fnExactShortestWalkSpec : ChangeSpec := { name := "fnExactShortestWalk", fn := fun _ => fun
  | [d1, d2] => { results := [.lit (.bool true)], args := [d1, d2] }
  | _ => none }
def fnExactShortestWalkRow : OpenClaim := { program := "ytgfffbnodinkcaa", sum := "711a34d4c3347626d181b48f8e5fa1034ad9651ed837ac3fbc4dbed957c40847", func := "loop.example/g01326/laws.FnExactShortestWalk", spec := "fnExactShortestWalk", unfollowed := true, recurses := true, plainKeys := false, apart := false }
def FnExactShortestWalkSaid : Prop := fnExactShortestWalkRow.holds Try.pinned (OpenSpec.ofChange fnExactShortestWalkSpec)

/-- ITS FALSE NEIGHBOUR: 'it returns false'. Refute it at one input. -/
def fnExactShortestWalkWrong : ChangeSpec := { name := "fnExactShortestWalk", fn := fun _ => fun
  | [d1, d2] => { results := [.lit (.bool false)], args := [d1, d2] }
  | _ => none }
def FnExactShortestWalkWrongFalsely : Prop := fnExactShortestWalkRow.holds Try.pinned (OpenSpec.ofChange fnExactShortestWalkWrong)

/-- 'laws.FnExactWalkTo': WHATEVER THE INPUT: true; the input reads as it did. -/
def fnExactWalkToSpec : ChangeSpec := { name := "fnExactWalkTo", fn := fun _ => fun
  | [d1, d2] => { results := [.lit (.bool true)], args := [d1, d2] }
  | _ => none }
def fnExactWalkToRow : OpenClaim := { program := "ytgfffbnodinkcaa", sum := "711a34d4c3347626d181b48f8e5fa1034ad9651ed837ac3fbc4dbed957c40847", func := "loop.example/g01326/laws.FnExactWalkTo", spec := "fnExactWalkTo", unfollowed := true, recurses := true, plainKeys := false, apart := false }
def FnExactWalkToSaid : Prop := fnExactWalkToRow.holds Try.pinned (OpenSpec.ofChange fnExactWalkToSpec)

/-- ITS FALSE NEIGHBOUR: 'it returns false'. Refute it at one input. -/
def fnExactWalkToWrong : ChangeSpec := { name := "fnExactWalkTo", fn := fun _ => fun
  | [d1, d2] => { results := [.lit (.bool false)], args := [d1, d2] }
  | _ => none }
def FnExactWalkToWrongFalsely : Prop := fnExactWalkToRow.holds Try.pinned (OpenSpec.ofChange fnExactWalkToWrong)

/-- 'laws.FnExactNearLabels': WHATEVER THE INPUT: true; the input reads as it did. -/
def fnExactNearLabelsSpec : ChangeSpec := { name := "fnExactNearLabels", fn := fun _ => fun
  | [d] => { results := [.lit (.bool true)], args := [d] }
  | _ => none }
def fnExactNearLabelsRow : OpenClaim := { program := "ytgfffbnodinkcaa", sum := "711a34d4c3347626d181b48f8e5fa1034ad9651ed837ac3fbc4dbed957c40847", func := "loop.example/g01326/laws.FnExactNearLabels", spec := "fnExactNearLabels", unfollowed := true, recurses := true, plainKeys := false, apart := false }
def FnExactNearLabelsSaid : Prop := fnExactNearLabelsRow.holds Try.pinned (OpenSpec.ofChange fnExactNearLabelsSpec)

/-- ITS FALSE NEIGHBOUR: 'it returns false'. Refute it at one input. -/
def fnExactNearLabelsWrong : ChangeSpec := { name := "fnExactNearLabels", fn := fun _ => fun
  | [d] => { results := [.lit (.bool false)], args := [d] }
  | _ => none }
def FnExactNearLabelsWrongFalsely : Prop := fnExactNearLabelsRow.holds Try.pinned (OpenSpec.ofChange fnExactNearLabelsWrong)

/-- 'laws.FnExactSwappedLabels': WHATEVER THE INPUT: true; the input reads as it did. -/
def fnExactSwappedLabelsSpec : ChangeSpec := { name := "fnExactSwappedLabels", fn := fun _ => fun
  | [d] => { results := [.lit (.bool true)], args := [d] }
  | _ => none }
def fnExactSwappedLabelsRow : OpenClaim := { program := "ytgfffbnodinkcaa", sum := "711a34d4c3347626d181b48f8e5fa1034ad9651ed837ac3fbc4dbed957c40847", func := "loop.example/g01326/laws.FnExactSwappedLabels", spec := "fnExactSwappedLabels", unfollowed := true, recurses := true, plainKeys := false, apart := false }
def FnExactSwappedLabelsSaid : Prop := fnExactSwappedLabelsRow.holds Try.pinned (OpenSpec.ofChange fnExactSwappedLabelsSpec)

/-- ITS FALSE NEIGHBOUR: 'it returns false'. Refute it at one input. -/
def fnExactSwappedLabelsWrong : ChangeSpec := { name := "fnExactSwappedLabels", fn := fun _ => fun
  | [d] => { results := [.lit (.bool false)], args := [d] }
  | _ => none }
def FnExactSwappedLabelsWrongFalsely : Prop := fnExactSwappedLabelsRow.holds Try.pinned (OpenSpec.ofChange fnExactSwappedLabelsWrong)

/-- 'laws.FnLabels': WHATEVER THE INPUT: true; the input reads as it did. -/
def fnLabelsSpec : ChangeSpec := { name := "fnLabels", fn := fun _ => fun
  | [d1, d2] => { results := [.lit (.bool true)], args := [d1, d2] }
  | _ => none }
def fnLabelsRow : OpenClaim := { program := "ytgfffbnodinkcaa", sum := "711a34d4c3347626d181b48f8e5fa1034ad9651ed837ac3fbc4dbed957c40847", func := "loop.example/g01326/laws.FnLabels", spec := "fnLabels", unfollowed := true, recurses := true, plainKeys := false, apart := false }
def FnLabelsSaid : Prop := fnLabelsRow.holds Try.pinned (OpenSpec.ofChange fnLabelsSpec)

/-- ITS FALSE NEIGHBOUR: 'it returns false'. Refute it at one input. -/
def fnLabelsWrong : ChangeSpec := { name := "fnLabels", fn := fun _ => fun
  | [d1, d2] => { results := [.lit (.bool false)], args := [d1, d2] }
  | _ => none }
def FnLabelsWrongFalsely : Prop := fnLabelsRow.holds Try.pinned (OpenSpec.ofChange fnLabelsWrong)

/- THE SECOND FORM. 'bulk': how many values and letters a reading holds, each counted each time it is reached (what is shared counts as often as it is met; a slice's spare places count too). A statement '..UptoSaid' is the law's where the arguments, and the package variables that the reading takes, are together of bulk at most 1048576: NARROWER than '..Said'. Prove '..Said' where nothing that the law and all that it calls make is longer than what came in: it says more and counts as full. Else prove '..UptoSaid'. A law counts once. -/
mutual
def uptoBulk {H : Type} : DataW H → Nat
  | .lit (.string bytes) => bytes.length + 1
  | .lit _ => 1
  | .nil => 1
  | .ptr d => uptoBulk d + 1
  | .slice elems spare => uptoBulkAll elems + uptoBulkAll spare + 1
  | .agg parts => uptoBulkAll parts + 1
  | .iface _ d => uptoBulk d + 1
  | .map entries => uptoBulkEntries entries + 1
  | .held _ => 1
def uptoBulkAll {H : Type} : List (DataW H) → Nat
  | [] => 0
  | d :: r => uptoBulk d + uptoBulkAll r
def uptoBulkEntries {H : Type} : List (Lit × DataW H) → Nat
  | [] => 0
  | x :: r => uptoBulkEntry x + uptoBulkEntries r
def uptoBulkEntry {H : Type} : Lit × DataW H → Nat
  | (.string bytes, d) => bytes.length + uptoBulk d + 1
  | (_, d) => uptoBulk d + 1
 end
def uptoSmall : (H : Type) → List (DataW H) → Bool := fun _ ds => decide (uptoBulkAll ds ≤ 1048576)
def OpenSpec.upto (s : _root_.Go.ChangeSpec) : _root_.Go.OpenSpec := { _root_.Go.OpenSpec.ofChange s with cond := some uptoSmall }

/-- 'laws.FnExactWalkLength', WHERE WHAT IT READS IS OF BULK AT MOST 1048576: true; the input reads as it did. -/
def fnExactWalkLengthUptoRow : OpenClaim := { program := "ytgfffbnodinkcaa", sum := "711a34d4c3347626d181b48f8e5fa1034ad9651ed837ac3fbc4dbed957c40847", func := "loop.example/g01326/laws.FnExactWalkLength", spec := "fnExactWalkLength", unfollowed := true, recurses := true, plainKeys := false, apart := false, narrowed := true }
def FnExactWalkLengthUptoSaid : Prop := fnExactWalkLengthUptoRow.holds Try.pinned (OpenSpec.upto fnExactWalkLengthSpec)

/-- 'laws.FnExactHeaviestShelf', WHERE WHAT IT READS IS OF BULK AT MOST 1048576: true; the input reads as it did. -/
def fnExactHeaviestShelfUptoRow : OpenClaim := { program := "ytgfffbnodinkcaa", sum := "711a34d4c3347626d181b48f8e5fa1034ad9651ed837ac3fbc4dbed957c40847", func := "loop.example/g01326/laws.FnExactHeaviestShelf", spec := "fnExactHeaviestShelf", plainKeys := false, apart := false, narrowed := true }
def FnExactHeaviestShelfUptoSaid : Prop := fnExactHeaviestShelfUptoRow.holds Try.pinned (OpenSpec.upto fnExactHeaviestShelfSpec)

/-- 'laws.FnExactWithoutBooks', WHERE WHAT IT READS IS OF BULK AT MOST 1048576: true; the input reads as it did. -/
def fnExactWithoutBooksUptoRow : OpenClaim := { program := "ytgfffbnodinkcaa", sum := "711a34d4c3347626d181b48f8e5fa1034ad9651ed837ac3fbc4dbed957c40847", func := "loop.example/g01326/laws.FnExactWithoutBooks", spec := "fnExactWithoutBooks", plainKeys := false, apart := false, narrowed := true }
def FnExactWithoutBooksUptoSaid : Prop := fnExactWithoutBooksUptoRow.holds Try.pinned (OpenSpec.upto fnExactWithoutBooksSpec)

/-- 'laws.FnExactOutOfPlace', WHERE WHAT IT READS IS OF BULK AT MOST 1048576: true; the input reads as it did. -/
def fnExactOutOfPlaceUptoRow : OpenClaim := { program := "ytgfffbnodinkcaa", sum := "711a34d4c3347626d181b48f8e5fa1034ad9651ed837ac3fbc4dbed957c40847", func := "loop.example/g01326/laws.FnExactOutOfPlace", spec := "fnExactOutOfPlace", unfollowed := true, recurses := true, plainKeys := false, apart := false, narrowed := true }
def FnExactOutOfPlaceUptoSaid : Prop := fnExactOutOfPlaceUptoRow.holds Try.pinned (OpenSpec.upto fnExactOutOfPlaceSpec)

/-- 'laws.FnExactLabelOf', WHERE WHAT IT READS IS OF BULK AT MOST 1048576: true; the input reads as it did. -/
def fnExactLabelOfUptoRow : OpenClaim := { program := "ytgfffbnodinkcaa", sum := "711a34d4c3347626d181b48f8e5fa1034ad9651ed837ac3fbc4dbed957c40847", func := "loop.example/g01326/laws.FnExactLabelOf", spec := "fnExactLabelOf", unfollowed := true, recurses := true, plainKeys := false, apart := false, narrowed := true }
def FnExactLabelOfUptoSaid : Prop := fnExactLabelOfUptoRow.holds Try.pinned (OpenSpec.upto fnExactLabelOfSpec)

/-- 'laws.FnExactCheckLabel', WHERE WHAT IT READS IS OF BULK AT MOST 1048576: true; the input reads as it did. -/
def fnExactCheckLabelUptoRow : OpenClaim := { program := "ytgfffbnodinkcaa", sum := "711a34d4c3347626d181b48f8e5fa1034ad9651ed837ac3fbc4dbed957c40847", func := "loop.example/g01326/laws.FnExactCheckLabel", spec := "fnExactCheckLabel", unfollowed := true, recurses := true, plainKeys := false, apart := false, narrowed := true }
def FnExactCheckLabelUptoSaid : Prop := fnExactCheckLabelUptoRow.holds Try.pinned (OpenSpec.upto fnExactCheckLabelSpec)

/-- 'laws.FnExactReadLabel', WHERE WHAT IT READS IS OF BULK AT MOST 1048576: true; the input reads as it did. -/
def fnExactReadLabelUptoRow : OpenClaim := { program := "ytgfffbnodinkcaa", sum := "711a34d4c3347626d181b48f8e5fa1034ad9651ed837ac3fbc4dbed957c40847", func := "loop.example/g01326/laws.FnExactReadLabel", spec := "fnExactReadLabel", unfollowed := true, recurses := true, plainKeys := false, apart := false, narrowed := true }
def FnExactReadLabelUptoSaid : Prop := fnExactReadLabelUptoRow.holds Try.pinned (OpenSpec.upto fnExactReadLabelSpec)

/-- 'laws.FnExactShortestWalk', WHERE WHAT IT READS IS OF BULK AT MOST 1048576: true; the input reads as it did. -/
def fnExactShortestWalkUptoRow : OpenClaim := { program := "ytgfffbnodinkcaa", sum := "711a34d4c3347626d181b48f8e5fa1034ad9651ed837ac3fbc4dbed957c40847", func := "loop.example/g01326/laws.FnExactShortestWalk", spec := "fnExactShortestWalk", unfollowed := true, recurses := true, plainKeys := false, apart := false, narrowed := true }
def FnExactShortestWalkUptoSaid : Prop := fnExactShortestWalkUptoRow.holds Try.pinned (OpenSpec.upto fnExactShortestWalkSpec)

/-- 'laws.FnExactWalkTo', WHERE WHAT IT READS IS OF BULK AT MOST 1048576: true; the input reads as it did. -/
def fnExactWalkToUptoRow : OpenClaim := { program := "ytgfffbnodinkcaa", sum := "711a34d4c3347626d181b48f8e5fa1034ad9651ed837ac3fbc4dbed957c40847", func := "loop.example/g01326/laws.FnExactWalkTo", spec := "fnExactWalkTo", unfollowed := true, recurses := true, plainKeys := false, apart := false, narrowed := true }
def FnExactWalkToUptoSaid : Prop := fnExactWalkToUptoRow.holds Try.pinned (OpenSpec.upto fnExactWalkToSpec)

/-- 'laws.FnExactNearLabels', WHERE WHAT IT READS IS OF BULK AT MOST 1048576: true; the input reads as it did. -/
def fnExactNearLabelsUptoRow : OpenClaim := { program := "ytgfffbnodinkcaa", sum := "711a34d4c3347626d181b48f8e5fa1034ad9651ed837ac3fbc4dbed957c40847", func := "loop.example/g01326/laws.FnExactNearLabels", spec := "fnExactNearLabels", unfollowed := true, recurses := true, plainKeys := false, apart := false, narrowed := true }
def FnExactNearLabelsUptoSaid : Prop := fnExactNearLabelsUptoRow.holds Try.pinned (OpenSpec.upto fnExactNearLabelsSpec)

/-- 'laws.FnExactSwappedLabels', WHERE WHAT IT READS IS OF BULK AT MOST 1048576: true; the input reads as it did. -/
def fnExactSwappedLabelsUptoRow : OpenClaim := { program := "ytgfffbnodinkcaa", sum := "711a34d4c3347626d181b48f8e5fa1034ad9651ed837ac3fbc4dbed957c40847", func := "loop.example/g01326/laws.FnExactSwappedLabels", spec := "fnExactSwappedLabels", unfollowed := true, recurses := true, plainKeys := false, apart := false, narrowed := true }
def FnExactSwappedLabelsUptoSaid : Prop := fnExactSwappedLabelsUptoRow.holds Try.pinned (OpenSpec.upto fnExactSwappedLabelsSpec)

/-- 'laws.FnLabels', WHERE WHAT IT READS IS OF BULK AT MOST 1048576: true; the input reads as it did. -/
def fnLabelsUptoRow : OpenClaim := { program := "ytgfffbnodinkcaa", sum := "711a34d4c3347626d181b48f8e5fa1034ad9651ed837ac3fbc4dbed957c40847", func := "loop.example/g01326/laws.FnLabels", spec := "fnLabels", unfollowed := true, recurses := true, plainKeys := false, apart := false, narrowed := true }
def FnLabelsUptoSaid : Prop := fnLabelsUptoRow.holds Try.pinned (OpenSpec.upto fnLabelsSpec)

end Rows
end Go.Proofs.Ytgfffbnodinkcaa
