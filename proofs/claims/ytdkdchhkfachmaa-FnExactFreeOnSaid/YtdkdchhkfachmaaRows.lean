/-
  No cell of these rows narrows 'for every input' (looked for: loops, veiled, ifaces, maps, wideKeys, modest, calm, conditions, laid).
  DERIVED. THE GIVEN ROWS OF THIS SEAT. 12 by the template 'for every input the law returns true; each argument reads behind the call as it read before'; 0 by the template 'total and deterministic' (their statements: YtdkdchhkfachmaaTotals.lean).
  GIVEN WITH THE SEED: the statements are not yours to turn. If you find one false, say at which input.
  Laid BY PROGRAM, IN A SANDBOX (cutbox-rows.mjs): the forced cells as the released guide's own fill.sh prints them over the translation 9814dbc758ff5f01… (all of the seat's roots in one cut). By AI agents, Wed Nov 11 2026. No macro, syntax, notation, axiom, sorry.
-/
import Derived.Test.YtdkdchhkfachmaaChecked
import GoSem.Claim
import GoSem.ClaimJoined
import GoSem.ClaimMapViews
import Derived.JoinedTies
import Derived.KernelRfl
namespace Go.Proofs.Ytdkdchhkfachmaa
/- THE CELL 'sum', in the pinned program and in every row, IS THE sha256 OF THE DUMP (.gsa) THAT YtdkdchhkfachmaaProg.lean LOADS. Nothing in Lean hashes anything: it is a label: what it is worth is what the hold of that sum in a sandbox is worth. -/
noncomputable def Try.pinned : Pinned := { name := "ytdkdchhkfachmaa", sum := "9814dbc758ff5f0154957d46b74d9d1dabd9ec40af8185725399e678cb6b8992", checked := Try.checked }
namespace Rows
def none {H : Type} : Left H := { results := [], args := [] }

/-- 'laws.FnExactValidCase': WHATEVER THE INPUT: true; the input reads as it did. -/
def fnExactValidCaseSpec : ChangeSpec := { name := "fnExactValidCase", fn := fun _ => fun
  | [d] => { results := [.lit (.bool true)], args := [d] }
  | _ => none }
def fnExactValidCaseRow : OpenClaim := { program := "ytdkdchhkfachmaa", sum := "9814dbc758ff5f0154957d46b74d9d1dabd9ec40af8185725399e678cb6b8992", func := "loop.example/g01326/laws.FnExactValidCase", spec := "fnExactValidCase", apart := false }
def FnExactValidCaseSaid : Prop := fnExactValidCaseRow.holds Try.pinned (OpenSpec.ofChange fnExactValidCaseSpec)

/-- ITS FALSE NEIGHBOUR: 'it returns false'. Refute it at one input. -/
def fnExactValidCaseWrong : ChangeSpec := { name := "fnExactValidCase", fn := fun _ => fun
  | [d] => { results := [.lit (.bool false)], args := [d] }
  | _ => none }
def FnExactValidCaseWrongFalsely : Prop := fnExactValidCaseRow.holds Try.pinned (OpenSpec.ofChange fnExactValidCaseWrong)

/-- 'laws.FnExactSameCase': WHATEVER THE INPUT: true; the input reads as it did. -/
def fnExactSameCaseSpec : ChangeSpec := { name := "fnExactSameCase", fn := fun _ => fun
  | [d1, d2] => { results := [.lit (.bool true)], args := [d1, d2] }
  | _ => none }
def fnExactSameCaseRow : OpenClaim := { program := "ytdkdchhkfachmaa", sum := "9814dbc758ff5f0154957d46b74d9d1dabd9ec40af8185725399e678cb6b8992", func := "loop.example/g01326/laws.FnExactSameCase", spec := "fnExactSameCase", apart := false }
def FnExactSameCaseSaid : Prop := fnExactSameCaseRow.holds Try.pinned (OpenSpec.ofChange fnExactSameCaseSpec)

/-- ITS FALSE NEIGHBOUR: 'it returns false'. Refute it at one input. -/
def fnExactSameCaseWrong : ChangeSpec := { name := "fnExactSameCase", fn := fun _ => fun
  | [d1, d2] => { results := [.lit (.bool false)], args := [d1, d2] }
  | _ => none }
def FnExactSameCaseWrongFalsely : Prop := fnExactSameCaseRow.holds Try.pinned (OpenSpec.ofChange fnExactSameCaseWrong)

/-- 'laws.FnExactFitsOn': WHATEVER THE INPUT: true; the input reads as it did. -/
def fnExactFitsOnSpec : ChangeSpec := { name := "fnExactFitsOn", fn := fun _ => fun
  | [d1, d2, d3] => { results := [.lit (.bool true)], args := [d1, d2, d3] }
  | _ => none }
def fnExactFitsOnRow : OpenClaim := { program := "ytdkdchhkfachmaa", sum := "9814dbc758ff5f0154957d46b74d9d1dabd9ec40af8185725399e678cb6b8992", func := "loop.example/g01326/laws.FnExactFitsOn", spec := "fnExactFitsOn", apart := false }
def FnExactFitsOnSaid : Prop := fnExactFitsOnRow.holds Try.pinned (OpenSpec.ofChange fnExactFitsOnSpec)

/-- ITS FALSE NEIGHBOUR: 'it returns false'. Refute it at one input. -/
def fnExactFitsOnWrong : ChangeSpec := { name := "fnExactFitsOn", fn := fun _ => fun
  | [d1, d2, d3] => { results := [.lit (.bool false)], args := [d1, d2, d3] }
  | _ => none }
def FnExactFitsOnWrongFalsely : Prop := fnExactFitsOnRow.holds Try.pinned (OpenSpec.ofChange fnExactFitsOnWrong)

/-- 'laws.FnExactFillShelves': WHATEVER THE INPUT: true; the input reads as it did. -/
def fnExactFillShelvesSpec : ChangeSpec := { name := "fnExactFillShelves", fn := fun _ => fun
  | [d1, d2] => { results := [.lit (.bool true)], args := [d1, d2] }
  | _ => none }
def fnExactFillShelvesRow : OpenClaim := { program := "ytdkdchhkfachmaa", sum := "9814dbc758ff5f0154957d46b74d9d1dabd9ec40af8185725399e678cb6b8992", func := "loop.example/g01326/laws.FnExactFillShelves", spec := "fnExactFillShelves", apart := false }
def FnExactFillShelvesSaid : Prop := fnExactFillShelvesRow.holds Try.pinned (OpenSpec.ofChange fnExactFillShelvesSpec)

/-- ITS FALSE NEIGHBOUR: 'it returns false'. Refute it at one input. -/
def fnExactFillShelvesWrong : ChangeSpec := { name := "fnExactFillShelves", fn := fun _ => fun
  | [d1, d2] => { results := [.lit (.bool false)], args := [d1, d2] }
  | _ => none }
def FnExactFillShelvesWrongFalsely : Prop := fnExactFillShelvesRow.holds Try.pinned (OpenSpec.ofChange fnExactFillShelvesWrong)

/-- 'laws.FnExactCheckLayout': WHATEVER THE INPUT: true; the input reads as it did. -/
def fnExactCheckLayoutSpec : ChangeSpec := { name := "fnExactCheckLayout", fn := fun _ => fun
  | [d1, d2, d3] => { results := [.lit (.bool true)], args := [d1, d2, d3] }
  | _ => none }
def fnExactCheckLayoutRow : OpenClaim := { program := "ytdkdchhkfachmaa", sum := "9814dbc758ff5f0154957d46b74d9d1dabd9ec40af8185725399e678cb6b8992", func := "loop.example/g01326/laws.FnExactCheckLayout", spec := "fnExactCheckLayout", apart := false }
def FnExactCheckLayoutSaid : Prop := fnExactCheckLayoutRow.holds Try.pinned (OpenSpec.ofChange fnExactCheckLayoutSpec)

/-- ITS FALSE NEIGHBOUR: 'it returns false'. Refute it at one input. -/
def fnExactCheckLayoutWrong : ChangeSpec := { name := "fnExactCheckLayout", fn := fun _ => fun
  | [d1, d2, d3] => { results := [.lit (.bool false)], args := [d1, d2, d3] }
  | _ => none }
def FnExactCheckLayoutWrongFalsely : Prop := fnExactCheckLayoutRow.holds Try.pinned (OpenSpec.ofChange fnExactCheckLayoutWrong)

/-- 'laws.FnExactFirstBadShelf': WHATEVER THE INPUT: true; the input reads as it did. -/
def fnExactFirstBadShelfSpec : ChangeSpec := { name := "fnExactFirstBadShelf", fn := fun _ => fun
  | [d1, d2, d3] => { results := [.lit (.bool true)], args := [d1, d2, d3] }
  | _ => none }
def fnExactFirstBadShelfRow : OpenClaim := { program := "ytdkdchhkfachmaa", sum := "9814dbc758ff5f0154957d46b74d9d1dabd9ec40af8185725399e678cb6b8992", func := "loop.example/g01326/laws.FnExactFirstBadShelf", spec := "fnExactFirstBadShelf", apart := false }
def FnExactFirstBadShelfSaid : Prop := fnExactFirstBadShelfRow.holds Try.pinned (OpenSpec.ofChange fnExactFirstBadShelfSpec)

/-- ITS FALSE NEIGHBOUR: 'it returns false'. Refute it at one input. -/
def fnExactFirstBadShelfWrong : ChangeSpec := { name := "fnExactFirstBadShelf", fn := fun _ => fun
  | [d1, d2, d3] => { results := [.lit (.bool false)], args := [d1, d2, d3] }
  | _ => none }
def FnExactFirstBadShelfWrongFalsely : Prop := fnExactFirstBadShelfRow.holds Try.pinned (OpenSpec.ofChange fnExactFirstBadShelfWrong)

/-- 'laws.FnExactFreeOn': WHATEVER THE INPUT: true; the input reads as it did. -/
def fnExactFreeOnSpec : ChangeSpec := { name := "fnExactFreeOn", fn := fun _ => fun
  | [d1, d2, d3] => { results := [.lit (.bool true)], args := [d1, d2, d3] }
  | _ => none }
def fnExactFreeOnRow : OpenClaim := { program := "ytdkdchhkfachmaa", sum := "9814dbc758ff5f0154957d46b74d9d1dabd9ec40af8185725399e678cb6b8992", func := "loop.example/g01326/laws.FnExactFreeOn", spec := "fnExactFreeOn", unfollowed := true, recurses := true, apart := false }
def FnExactFreeOnSaid : Prop := fnExactFreeOnRow.holds Try.pinned (OpenSpec.ofChange fnExactFreeOnSpec)

/-- ITS FALSE NEIGHBOUR: 'it returns false'. Refute it at one input. -/
def fnExactFreeOnWrong : ChangeSpec := { name := "fnExactFreeOn", fn := fun _ => fun
  | [d1, d2, d3] => { results := [.lit (.bool false)], args := [d1, d2, d3] }
  | _ => none }
def FnExactFreeOnWrongFalsely : Prop := fnExactFreeOnRow.holds Try.pinned (OpenSpec.ofChange fnExactFreeOnWrong)

/-- 'laws.FnExactCostOf': WHATEVER THE INPUT: true; the input reads as it did. -/
def fnExactCostOfSpec : ChangeSpec := { name := "fnExactCostOf", fn := fun _ => fun
  | [d1, d2, d3] => { results := [.lit (.bool true)], args := [d1, d2, d3] }
  | _ => none }
def fnExactCostOfRow : OpenClaim := { program := "ytdkdchhkfachmaa", sum := "9814dbc758ff5f0154957d46b74d9d1dabd9ec40af8185725399e678cb6b8992", func := "loop.example/g01326/laws.FnExactCostOf", spec := "fnExactCostOf", unfollowed := true, recurses := true, apart := false }
def FnExactCostOfSaid : Prop := fnExactCostOfRow.holds Try.pinned (OpenSpec.ofChange fnExactCostOfSpec)

/-- ITS FALSE NEIGHBOUR: 'it returns false'. Refute it at one input. -/
def fnExactCostOfWrong : ChangeSpec := { name := "fnExactCostOf", fn := fun _ => fun
  | [d1, d2, d3] => { results := [.lit (.bool false)], args := [d1, d2, d3] }
  | _ => none }
def FnExactCostOfWrongFalsely : Prop := fnExactCostOfRow.holds Try.pinned (OpenSpec.ofChange fnExactCostOfWrong)

/-- 'laws.FnExactUsedShelves': WHATEVER THE INPUT: true; the input reads as it did. -/
def fnExactUsedShelvesSpec : ChangeSpec := { name := "fnExactUsedShelves", fn := fun _ => fun
  | [d1, d2, d3] => { results := [.lit (.bool true)], args := [d1, d2, d3] }
  | _ => none }
def fnExactUsedShelvesRow : OpenClaim := { program := "ytdkdchhkfachmaa", sum := "9814dbc758ff5f0154957d46b74d9d1dabd9ec40af8185725399e678cb6b8992", func := "loop.example/g01326/laws.FnExactUsedShelves", spec := "fnExactUsedShelves", unfollowed := true, recurses := true, apart := false }
def FnExactUsedShelvesSaid : Prop := fnExactUsedShelvesRow.holds Try.pinned (OpenSpec.ofChange fnExactUsedShelvesSpec)

/-- ITS FALSE NEIGHBOUR: 'it returns false'. Refute it at one input. -/
def fnExactUsedShelvesWrong : ChangeSpec := { name := "fnExactUsedShelves", fn := fun _ => fun
  | [d1, d2, d3] => { results := [.lit (.bool false)], args := [d1, d2, d3] }
  | _ => none }
def FnExactUsedShelvesWrongFalsely : Prop := fnExactUsedShelvesRow.holds Try.pinned (OpenSpec.ofChange fnExactUsedShelvesWrong)

/-- 'laws.FnExactWhereIs': WHATEVER THE INPUT: true; the input reads as it did. -/
def fnExactWhereIsSpec : ChangeSpec := { name := "fnExactWhereIs", fn := fun _ => fun
  | [d1, d2, d3, d4] => { results := [.lit (.bool true)], args := [d1, d2, d3, d4] }
  | _ => none }
def fnExactWhereIsRow : OpenClaim := { program := "ytdkdchhkfachmaa", sum := "9814dbc758ff5f0154957d46b74d9d1dabd9ec40af8185725399e678cb6b8992", func := "loop.example/g01326/laws.FnExactWhereIs", spec := "fnExactWhereIs", unfollowed := true, recurses := true, apart := false }
def FnExactWhereIsSaid : Prop := fnExactWhereIsRow.holds Try.pinned (OpenSpec.ofChange fnExactWhereIsSpec)

/-- ITS FALSE NEIGHBOUR: 'it returns false'. Refute it at one input. -/
def fnExactWhereIsWrong : ChangeSpec := { name := "fnExactWhereIs", fn := fun _ => fun
  | [d1, d2, d3, d4] => { results := [.lit (.bool false)], args := [d1, d2, d3, d4] }
  | _ => none }
def FnExactWhereIsWrongFalsely : Prop := fnExactWhereIsRow.holds Try.pinned (OpenSpec.ofChange fnExactWhereIsWrong)

/-- 'laws.FnExactBookAt': WHATEVER THE INPUT: true; the input reads as it did. -/
def fnExactBookAtSpec : ChangeSpec := { name := "fnExactBookAt", fn := fun _ => fun
  | [d1, d2, d3, d4, d5] => { results := [.lit (.bool true)], args := [d1, d2, d3, d4, d5] }
  | _ => none }
def fnExactBookAtRow : OpenClaim := { program := "ytdkdchhkfachmaa", sum := "9814dbc758ff5f0154957d46b74d9d1dabd9ec40af8185725399e678cb6b8992", func := "loop.example/g01326/laws.FnExactBookAt", spec := "fnExactBookAt", apart := false }
def FnExactBookAtSaid : Prop := fnExactBookAtRow.holds Try.pinned (OpenSpec.ofChange fnExactBookAtSpec)

/-- ITS FALSE NEIGHBOUR: 'it returns false'. Refute it at one input. -/
def fnExactBookAtWrong : ChangeSpec := { name := "fnExactBookAt", fn := fun _ => fun
  | [d1, d2, d3, d4, d5] => { results := [.lit (.bool false)], args := [d1, d2, d3, d4, d5] }
  | _ => none }
def FnExactBookAtWrongFalsely : Prop := fnExactBookAtRow.holds Try.pinned (OpenSpec.ofChange fnExactBookAtWrong)

/-- 'laws.FnExactShelfOfClass': WHATEVER THE INPUT: true; the input reads as it did. -/
def fnExactShelfOfClassSpec : ChangeSpec := { name := "fnExactShelfOfClass", fn := fun _ => fun
  | [d1, d2, d3, d4] => { results := [.lit (.bool true)], args := [d1, d2, d3, d4] }
  | _ => none }
def fnExactShelfOfClassRow : OpenClaim := { program := "ytdkdchhkfachmaa", sum := "9814dbc758ff5f0154957d46b74d9d1dabd9ec40af8185725399e678cb6b8992", func := "loop.example/g01326/laws.FnExactShelfOfClass", spec := "fnExactShelfOfClass", unfollowed := true, recurses := true, apart := false }
def FnExactShelfOfClassSaid : Prop := fnExactShelfOfClassRow.holds Try.pinned (OpenSpec.ofChange fnExactShelfOfClassSpec)

/-- ITS FALSE NEIGHBOUR: 'it returns false'. Refute it at one input. -/
def fnExactShelfOfClassWrong : ChangeSpec := { name := "fnExactShelfOfClass", fn := fun _ => fun
  | [d1, d2, d3, d4] => { results := [.lit (.bool false)], args := [d1, d2, d3, d4] }
  | _ => none }
def FnExactShelfOfClassWrongFalsely : Prop := fnExactShelfOfClassRow.holds Try.pinned (OpenSpec.ofChange fnExactShelfOfClassWrong)

/- THE SECOND FORM. 'bulk': how many values and letters a reading holds, each counted each time it is reached (what is shared counts as often as it is met; a slice's spare places count too). A statement '..UptoSaid' is the law's where the arguments, and the package variables that the reading takes, are together of bulk at most 1048576: NARROWER than '..Said'. Prove '..Said' where nothing that the law and all that it calls make is longer than what came in: it says more and counts as full. Else prove '..UptoSaid'. A law counts once. -/
mutual
def uptoBulk {H : Type} : DataW H → Nat
  | .lit (.string bytes) => bytes.length + 1
  | .lit _ => 1
  | .nil => 1
  | .ptr d => uptoBulk d + 1
  | .slice elems spare => uptoBulkAll elems + uptoBulkAll spare + 1
  | .agg parts => uptoBulkAll parts + 1
  | .iface _ d => uptoBulk d + 1
  | .map entries => uptoBulkEntries entries + 1
  | .held _ => 1
def uptoBulkAll {H : Type} : List (DataW H) → Nat
  | [] => 0
  | d :: r => uptoBulk d + uptoBulkAll r
def uptoBulkEntries {H : Type} : List (Lit × DataW H) → Nat
  | [] => 0
  | x :: r => uptoBulkEntry x + uptoBulkEntries r
def uptoBulkEntry {H : Type} : Lit × DataW H → Nat
  | (.string bytes, d) => bytes.length + uptoBulk d + 1
  | (_, d) => uptoBulk d + 1
 end
def uptoSmall : (H : Type) → List (DataW H) → Bool := fun _ ds => decide (uptoBulkAll ds ≤ 1048576)
def OpenSpec.upto (s : _root_.Go.ChangeSpec) : _root_.Go.OpenSpec := { _root_.Go.OpenSpec.ofChange s with cond := some uptoSmall }

/-- 'laws.FnExactValidCase', WHERE WHAT IT READS IS OF BULK AT MOST 1048576: true; the input reads as it did. -/
def fnExactValidCaseUptoRow : OpenClaim := { program := "ytdkdchhkfachmaa", sum := "9814dbc758ff5f0154957d46b74d9d1dabd9ec40af8185725399e678cb6b8992", func := "loop.example/g01326/laws.FnExactValidCase", spec := "fnExactValidCase", apart := false, narrowed := true }
def FnExactValidCaseUptoSaid : Prop := fnExactValidCaseUptoRow.holds Try.pinned (OpenSpec.upto fnExactValidCaseSpec)

/-- 'laws.FnExactSameCase', WHERE WHAT IT READS IS OF BULK AT MOST 1048576: true; the input reads as it did. -/
def fnExactSameCaseUptoRow : OpenClaim := { program := "ytdkdchhkfachmaa", sum := "9814dbc758ff5f0154957d46b74d9d1dabd9ec40af8185725399e678cb6b8992", func := "loop.example/g01326/laws.FnExactSameCase", spec := "fnExactSameCase", apart := false, narrowed := true }
def FnExactSameCaseUptoSaid : Prop := fnExactSameCaseUptoRow.holds Try.pinned (OpenSpec.upto fnExactSameCaseSpec)

/-- 'laws.FnExactFitsOn', WHERE WHAT IT READS IS OF BULK AT MOST 1048576: true; the input reads as it did. -/
def fnExactFitsOnUptoRow : OpenClaim := { program := "ytdkdchhkfachmaa", sum := "9814dbc758ff5f0154957d46b74d9d1dabd9ec40af8185725399e678cb6b8992", func := "loop.example/g01326/laws.FnExactFitsOn", spec := "fnExactFitsOn", apart := false, narrowed := true }
def FnExactFitsOnUptoSaid : Prop := fnExactFitsOnUptoRow.holds Try.pinned (OpenSpec.upto fnExactFitsOnSpec)

/-- 'laws.FnExactFillShelves', WHERE WHAT IT READS IS OF BULK AT MOST 1048576: true; the input reads as it did. -/
def fnExactFillShelvesUptoRow : OpenClaim := { program := "ytdkdchhkfachmaa", sum := "9814dbc758ff5f0154957d46b74d9d1dabd9ec40af8185725399e678cb6b8992", func := "loop.example/g01326/laws.FnExactFillShelves", spec := "fnExactFillShelves", apart := false, narrowed := true }
def FnExactFillShelvesUptoSaid : Prop := fnExactFillShelvesUptoRow.holds Try.pinned (OpenSpec.upto fnExactFillShelvesSpec)

/-- 'laws.FnExactCheckLayout', WHERE WHAT IT READS IS OF BULK AT MOST 1048576: true; the input reads as it did. -/
def fnExactCheckLayoutUptoRow : OpenClaim := { program := "ytdkdchhkfachmaa", sum := "9814dbc758ff5f0154957d46b74d9d1dabd9ec40af8185725399e678cb6b8992", func := "loop.example/g01326/laws.FnExactCheckLayout", spec := "fnExactCheckLayout", apart := false, narrowed := true }
def FnExactCheckLayoutUptoSaid : Prop := fnExactCheckLayoutUptoRow.holds Try.pinned (OpenSpec.upto fnExactCheckLayoutSpec)

/-- 'laws.FnExactFirstBadShelf', WHERE WHAT IT READS IS OF BULK AT MOST 1048576: true; the input reads as it did. -/
def fnExactFirstBadShelfUptoRow : OpenClaim := { program := "ytdkdchhkfachmaa", sum := "9814dbc758ff5f0154957d46b74d9d1dabd9ec40af8185725399e678cb6b8992", func := "loop.example/g01326/laws.FnExactFirstBadShelf", spec := "fnExactFirstBadShelf", apart := false, narrowed := true }
def FnExactFirstBadShelfUptoSaid : Prop := fnExactFirstBadShelfUptoRow.holds Try.pinned (OpenSpec.upto fnExactFirstBadShelfSpec)

/-- 'laws.FnExactFreeOn', WHERE WHAT IT READS IS OF BULK AT MOST 1048576: true; the input reads as it did. -/
def fnExactFreeOnUptoRow : OpenClaim := { program := "ytdkdchhkfachmaa", sum := "9814dbc758ff5f0154957d46b74d9d1dabd9ec40af8185725399e678cb6b8992", func := "loop.example/g01326/laws.FnExactFreeOn", spec := "fnExactFreeOn", unfollowed := true, recurses := true, apart := false, narrowed := true }
def FnExactFreeOnUptoSaid : Prop := fnExactFreeOnUptoRow.holds Try.pinned (OpenSpec.upto fnExactFreeOnSpec)

/-- 'laws.FnExactCostOf', WHERE WHAT IT READS IS OF BULK AT MOST 1048576: true; the input reads as it did. -/
def fnExactCostOfUptoRow : OpenClaim := { program := "ytdkdchhkfachmaa", sum := "9814dbc758ff5f0154957d46b74d9d1dabd9ec40af8185725399e678cb6b8992", func := "loop.example/g01326/laws.FnExactCostOf", spec := "fnExactCostOf", unfollowed := true, recurses := true, apart := false, narrowed := true }
def FnExactCostOfUptoSaid : Prop := fnExactCostOfUptoRow.holds Try.pinned (OpenSpec.upto fnExactCostOfSpec)

/-- 'laws.FnExactUsedShelves', WHERE WHAT IT READS IS OF BULK AT MOST 1048576: true; the input reads as it did. -/
def fnExactUsedShelvesUptoRow : OpenClaim := { program := "ytdkdchhkfachmaa", sum := "9814dbc758ff5f0154957d46b74d9d1dabd9ec40af8185725399e678cb6b8992", func := "loop.example/g01326/laws.FnExactUsedShelves", spec := "fnExactUsedShelves", unfollowed := true, recurses := true, apart := false, narrowed := true }
def FnExactUsedShelvesUptoSaid : Prop := fnExactUsedShelvesUptoRow.holds Try.pinned (OpenSpec.upto fnExactUsedShelvesSpec)

/-- 'laws.FnExactWhereIs', WHERE WHAT IT READS IS OF BULK AT MOST 1048576: true; the input reads as it did. -/
def fnExactWhereIsUptoRow : OpenClaim := { program := "ytdkdchhkfachmaa", sum := "9814dbc758ff5f0154957d46b74d9d1dabd9ec40af8185725399e678cb6b8992", func := "loop.example/g01326/laws.FnExactWhereIs", spec := "fnExactWhereIs", unfollowed := true, recurses := true, apart := false, narrowed := true }
def FnExactWhereIsUptoSaid : Prop := fnExactWhereIsUptoRow.holds Try.pinned (OpenSpec.upto fnExactWhereIsSpec)

/-- 'laws.FnExactBookAt', WHERE WHAT IT READS IS OF BULK AT MOST 1048576: true; the input reads as it did. -/
def fnExactBookAtUptoRow : OpenClaim := { program := "ytdkdchhkfachmaa", sum := "9814dbc758ff5f0154957d46b74d9d1dabd9ec40af8185725399e678cb6b8992", func := "loop.example/g01326/laws.FnExactBookAt", spec := "fnExactBookAt", apart := false, narrowed := true }
def FnExactBookAtUptoSaid : Prop := fnExactBookAtUptoRow.holds Try.pinned (OpenSpec.upto fnExactBookAtSpec)

/-- 'laws.FnExactShelfOfClass', WHERE WHAT IT READS IS OF BULK AT MOST 1048576: true; the input reads as it did. -/
def fnExactShelfOfClassUptoRow : OpenClaim := { program := "ytdkdchhkfachmaa", sum := "9814dbc758ff5f0154957d46b74d9d1dabd9ec40af8185725399e678cb6b8992", func := "loop.example/g01326/laws.FnExactShelfOfClass", spec := "fnExactShelfOfClass", unfollowed := true, recurses := true, apart := false, narrowed := true }
def FnExactShelfOfClassUptoSaid : Prop := fnExactShelfOfClassUptoRow.holds Try.pinned (OpenSpec.upto fnExactShelfOfClassSpec)

end Rows
end Go.Proofs.Ytdkdchhkfachmaa
