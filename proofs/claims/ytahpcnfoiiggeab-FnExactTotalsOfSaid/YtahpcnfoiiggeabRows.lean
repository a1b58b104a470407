/-
  No cell of these rows narrows 'for every input' (looked for: loops, veiled, ifaces, maps, wideKeys, modest, calm, conditions, laid).
  DERIVED. THE GIVEN ROWS OF THIS SEAT. 4 by the template 'for every input the law returns true; each argument reads behind the call as it read before'; 0 by the template 'total and deterministic' (their statements: YtahpcnfoiiggeabTotals.lean).
  GIVEN WITH THE SEED: the statements are not yours to turn. If you find one false, say at which input.
  Laid BY PROGRAM, IN A SANDBOX (cutbox-rows.mjs): the forced cells as the released guide's own fill.sh prints them over the translation fb46328a3b17cc27… (all of the seat's roots in one cut). By AI agents, Wed Nov 11 2026. No macro, syntax, notation, axiom, sorry.
-/
import Derived.Test.YtahpcnfoiiggeabChecked
import GoSem.Claim
import GoSem.ClaimJoined
import GoSem.ClaimMapViews
import Derived.JoinedTies
import Derived.KernelRfl
namespace Go.Proofs.Ytahpcnfoiiggeab
/- THE CELL 'sum', in the pinned program and in every row, IS THE sha256 OF THE DUMP (.gsa) THAT YtahpcnfoiiggeabProg.lean LOADS. Nothing in Lean hashes anything: it is a label: what it is worth is what the hold of that sum in a sandbox is worth. -/
noncomputable def Try.pinned : Pinned := { name := "ytahpcnfoiiggeab", sum := "fb46328a3b17cc277a5e38978c507f55935120117cab08035589d4cdd2361e35", checked := Try.checked }
namespace Rows
def none {H : Type} : Left H := { results := [], args := [] }

/-- 'laws.FnExactTotalsOf': WHATEVER THE INPUT: true; the input reads as it did. -/
def fnExactTotalsOfSpec : ChangeSpec := { name := "fnExactTotalsOf", fn := fun _ => fun
  | [d] => { results := [.lit (.bool true)], args := [d] }
  | _ => none }
def fnExactTotalsOfRow : OpenClaim := { program := "ytahpcnfoiiggeab", sum := "fb46328a3b17cc277a5e38978c507f55935120117cab08035589d4cdd2361e35", func := "loop.example/g01326/laws.FnExactTotalsOf", spec := "fnExactTotalsOf", plainKeys := false, apart := false }
def FnExactTotalsOfSaid : Prop := fnExactTotalsOfRow.holds Try.pinned (OpenSpec.ofChange fnExactTotalsOfSpec)

/-- ITS FALSE NEIGHBOUR: 'it returns false'. Refute it at one input. -/
def fnExactTotalsOfWrong : ChangeSpec := { name := "fnExactTotalsOf", fn := fun _ => fun
  | [d] => { results := [.lit (.bool false)], args := [d] }
  | _ => none }
def FnExactTotalsOfWrongFalsely : Prop := fnExactTotalsOfRow.holds Try.pinned (OpenSpec.ofChange fnExactTotalsOfWrong)

/-- 'laws.FnExactCountByHundreds': WHATEVER THE INPUT: true; the input reads as it did. -/
def fnExactCountByHundredsSpec : ChangeSpec := { name := "fnExactCountByHundreds", fn := fun _ => fun
  | [d] => { results := [.lit (.bool true)], args := [d] }
  | _ => none }
def fnExactCountByHundredsRow : OpenClaim := { program := "ytahpcnfoiiggeab", sum := "fb46328a3b17cc277a5e38978c507f55935120117cab08035589d4cdd2361e35", func := "loop.example/g01326/laws.FnExactCountByHundreds", spec := "fnExactCountByHundreds", plainKeys := false, apart := false }
def FnExactCountByHundredsSaid : Prop := fnExactCountByHundredsRow.holds Try.pinned (OpenSpec.ofChange fnExactCountByHundredsSpec)

/-- ITS FALSE NEIGHBOUR: 'it returns false'. Refute it at one input. -/
def fnExactCountByHundredsWrong : ChangeSpec := { name := "fnExactCountByHundreds", fn := fun _ => fun
  | [d] => { results := [.lit (.bool false)], args := [d] }
  | _ => none }
def FnExactCountByHundredsWrongFalsely : Prop := fnExactCountByHundredsRow.holds Try.pinned (OpenSpec.ofChange fnExactCountByHundredsWrong)

/-- 'laws.FnExactSortBooks': WHATEVER THE INPUT: true; the input reads as it did. -/
def fnExactSortBooksSpec : ChangeSpec := { name := "fnExactSortBooks", fn := fun _ => fun
  | [d1, d2] => { results := [.lit (.bool true)], args := [d1, d2] }
  | _ => none }
def fnExactSortBooksRow : OpenClaim := { program := "ytahpcnfoiiggeab", sum := "fb46328a3b17cc277a5e38978c507f55935120117cab08035589d4cdd2361e35", func := "loop.example/g01326/laws.FnExactSortBooks", spec := "fnExactSortBooks", unfollowed := true, recurses := true, plainKeys := false, apart := false }
def FnExactSortBooksSaid : Prop := fnExactSortBooksRow.holds Try.pinned (OpenSpec.ofChange fnExactSortBooksSpec)

/-- ITS FALSE NEIGHBOUR: 'it returns false'. Refute it at one input. -/
def fnExactSortBooksWrong : ChangeSpec := { name := "fnExactSortBooks", fn := fun _ => fun
  | [d1, d2] => { results := [.lit (.bool false)], args := [d1, d2] }
  | _ => none }
def FnExactSortBooksWrongFalsely : Prop := fnExactSortBooksRow.holds Try.pinned (OpenSpec.ofChange fnExactSortBooksWrong)

/-- 'laws.FnExactPairsOut': WHATEVER THE INPUT: true; the input reads as it did. -/
def fnExactPairsOutSpec : ChangeSpec := { name := "fnExactPairsOut", fn := fun _ => fun
  | [d] => { results := [.lit (.bool true)], args := [d] }
  | _ => none }
def fnExactPairsOutRow : OpenClaim := { program := "ytahpcnfoiiggeab", sum := "fb46328a3b17cc277a5e38978c507f55935120117cab08035589d4cdd2361e35", func := "loop.example/g01326/laws.FnExactPairsOut", spec := "fnExactPairsOut", unfollowed := true, recurses := true, plainKeys := false, apart := false }
def FnExactPairsOutSaid : Prop := fnExactPairsOutRow.holds Try.pinned (OpenSpec.ofChange fnExactPairsOutSpec)

/-- ITS FALSE NEIGHBOUR: 'it returns false'. Refute it at one input. -/
def fnExactPairsOutWrong : ChangeSpec := { name := "fnExactPairsOut", fn := fun _ => fun
  | [d] => { results := [.lit (.bool false)], args := [d] }
  | _ => none }
def FnExactPairsOutWrongFalsely : Prop := fnExactPairsOutRow.holds Try.pinned (OpenSpec.ofChange fnExactPairsOutWrong)

/- THE SECOND FORM. 'bulk': how many values and letters a reading holds, each counted each time it is reached (what is shared counts as often as it is met; a slice's spare places count too). A statement '..UptoSaid' is the law's where the arguments, and the package variables that the reading takes, are together of bulk at most 1048576: NARROWER than '..Said'. Prove '..Said' where nothing that the law and all that it calls make is longer than what came in: it says more and counts as full. Else prove '..UptoSaid'. A law counts once. -/
mutual
def uptoBulk {H : Type} : DataW H → Nat
  | .lit (.string bytes) => bytes.length + 1
  | .lit _ => 1
  | .nil => 1
  | .ptr d => uptoBulk d + 1
  | .slice elems spare => uptoBulkAll elems + uptoBulkAll spare + 1
  | .agg parts => uptoBulkAll parts + 1
  | .iface _ d => uptoBulk d + 1
  | .map entries => uptoBulkEntries entries + 1
  | .held _ => 1
def uptoBulkAll {H : Type} : List (DataW H) → Nat
  | [] => 0
  | d :: r => uptoBulk d + uptoBulkAll r
def uptoBulkEntries {H : Type} : List (Lit × DataW H) → Nat
  | [] => 0
  | x :: r => uptoBulkEntry x + uptoBulkEntries r
def uptoBulkEntry {H : Type} : Lit × DataW H → Nat
  | (.string bytes, d) => bytes.length + uptoBulk d + 1
  | (_, d) => uptoBulk d + 1
 end
def uptoSmall : (H : Type) → List (DataW H) → Bool := fun _ ds => decide (uptoBulkAll ds ≤ 1048576)
def OpenSpec.upto (s : _root_.Go.ChangeSpec) : _root_.Go.OpenSpec := { _root_.Go.OpenSpec.ofChange s with cond := some uptoSmall }

/-- 'laws.FnExactTotalsOf', WHERE WHAT IT READS IS OF BULK AT MOST 1048576: true; the input reads as it did. -/
def fnExactTotalsOfUptoRow : OpenClaim := { program := "ytahpcnfoiiggeab", sum := "fb46328a3b17cc277a5e38978c507f55935120117cab08035589d4cdd2361e35", func := "loop.example/g01326/laws.FnExactTotalsOf", spec := "fnExactTotalsOf", plainKeys := false, apart := false, narrowed := true }
def FnExactTotalsOfUptoSaid : Prop := fnExactTotalsOfUptoRow.holds Try.pinned (OpenSpec.upto fnExactTotalsOfSpec)

/-- 'laws.FnExactCountByHundreds', WHERE WHAT IT READS IS OF BULK AT MOST 1048576: true; the input reads as it did. -/
def fnExactCountByHundredsUptoRow : OpenClaim := { program := "ytahpcnfoiiggeab", sum := "fb46328a3b17cc277a5e38978c507f55935120117cab08035589d4cdd2361e35", func := "loop.example/g01326/laws.FnExactCountByHundreds", spec := "fnExactCountByHundreds", plainKeys := false, apart := false, narrowed := true }
def FnExactCountByHundredsUptoSaid : Prop := fnExactCountByHundredsUptoRow.holds Try.pinned (OpenSpec.upto fnExactCountByHundredsSpec)

/-- 'laws.FnExactSortBooks', WHERE WHAT IT READS IS OF BULK AT MOST 1048576: true; the input reads as it did. -/
def fnExactSortBooksUptoRow : OpenClaim := { program := "ytahpcnfoiiggeab", sum := "fb46328a3b17cc277a5e38978c507f55935120117cab08035589d4cdd2361e35", func := "loop.example/g01326/laws.FnExactSortBooks", spec := "fnExactSortBooks", unfollowed := true, recurses := true, plainKeys := false, apart := false, narrowed := true }
def FnExactSortBooksUptoSaid : Prop := fnExactSortBooksUptoRow.holds Try.pinned (OpenSpec.upto fnExactSortBooksSpec)

/-- 'laws.FnExactPairsOut', WHERE WHAT IT READS IS OF BULK AT MOST 1048576: true; the input reads as it did. -/
def fnExactPairsOutUptoRow : OpenClaim := { program := "ytahpcnfoiiggeab", sum := "fb46328a3b17cc277a5e38978c507f55935120117cab08035589d4cdd2361e35", func := "loop.example/g01326/laws.FnExactPairsOut", spec := "fnExactPairsOut", unfollowed := true, recurses := true, plainKeys := false, apart := false, narrowed := true }
def FnExactPairsOutUptoSaid : Prop := fnExactPairsOutUptoRow.holds Try.pinned (OpenSpec.upto fnExactPairsOutSpec)

end Rows
end Go.Proofs.Ytahpcnfoiiggeab
