/-
  No cell of these rows narrows 'for every input' (looked for: loops, veiled, ifaces, maps, wideKeys, modest, calm, conditions, laid).
  DERIVED. THE GIVEN ROWS OF THIS SEAT. 10 by the template 'for every input the law returns true; each argument reads behind the call as it read before'; 0 by the template 'total and deterministic' (their statements: YtahpcnfoiiggeaaTotals.lean).
  GIVEN WITH THE SEED: the statements are not yours to turn. If you find one false, say at which input.
  Laid BY PROGRAM, IN A SANDBOX (cutbox-rows.mjs): the forced cells as the released guide's own fill.sh prints them over the translation af2807b0216a7543… (all of the seat's roots in one cut). By AI agents, Wed Nov 11 2026. No macro, syntax, notation, axiom, sorry.
-/
import Derived.Test.YtahpcnfoiiggeaaChecked
import GoSem.Claim
import GoSem.ClaimJoined
import GoSem.ClaimMapViews
import Derived.JoinedTies
import Derived.KernelRfl
namespace Go.Proofs.Ytahpcnfoiiggeaa
/- THE CELL 'sum', in the pinned program and in every row, IS THE sha256 OF THE DUMP (.gsa) THAT YtahpcnfoiiggeaaProg.lean LOADS. Nothing in Lean hashes anything: it is a label: what it is worth is what the hold of that sum in a sandbox is worth. -/
noncomputable def Try.pinned : Pinned := { name := "ytahpcnfoiiggeaa", sum := "af2807b0216a7543ca07cb6d222bbf99fedc8c273f770a1b393ef777332e8f4c", checked := Try.checked }
namespace Rows
def none {H : Type} : Left H := { results := [], args := [] }

/-- 'laws.FnExactCodeName': WHATEVER THE INPUT: true; the input reads as it did. -/
def fnExactCodeNameSpec : ChangeSpec := { name := "fnExactCodeName", fn := fun _ => fun
  | [d] => { results := [.lit (.bool true)], args := [d] }
  | _ => none }
def fnExactCodeNameRow : OpenClaim := { program := "ytahpcnfoiiggeaa", sum := "af2807b0216a7543ca07cb6d222bbf99fedc8c273f770a1b393ef777332e8f4c", func := "loop.example/g01326/laws.FnExactCodeName", spec := "fnExactCodeName", apart := false }
def FnExactCodeNameSaid : Prop := fnExactCodeNameRow.holds Try.pinned (OpenSpec.ofChange fnExactCodeNameSpec)

/-- ITS FALSE NEIGHBOUR: 'it returns false'. Refute it at one input. -/
def fnExactCodeNameWrong : ChangeSpec := { name := "fnExactCodeName", fn := fun _ => fun
  | [d] => { results := [.lit (.bool false)], args := [d] }
  | _ => none }
def FnExactCodeNameWrongFalsely : Prop := fnExactCodeNameRow.holds Try.pinned (OpenSpec.ofChange fnExactCodeNameWrong)

/-- 'laws.FnExactValidBook': WHATEVER THE INPUT: true; the input reads as it did. -/
def fnExactValidBookSpec : ChangeSpec := { name := "fnExactValidBook", fn := fun _ => fun
  | [d] => { results := [.lit (.bool true)], args := [d] }
  | _ => none }
def fnExactValidBookRow : OpenClaim := { program := "ytahpcnfoiiggeaa", sum := "af2807b0216a7543ca07cb6d222bbf99fedc8c273f770a1b393ef777332e8f4c", func := "loop.example/g01326/laws.FnExactValidBook", spec := "fnExactValidBook", apart := false }
def FnExactValidBookSaid : Prop := fnExactValidBookRow.holds Try.pinned (OpenSpec.ofChange fnExactValidBookSpec)

/-- ITS FALSE NEIGHBOUR: 'it returns false'. Refute it at one input. -/
def fnExactValidBookWrong : ChangeSpec := { name := "fnExactValidBook", fn := fun _ => fun
  | [d] => { results := [.lit (.bool false)], args := [d] }
  | _ => none }
def FnExactValidBookWrongFalsely : Prop := fnExactValidBookRow.holds Try.pinned (OpenSpec.ofChange fnExactValidBookWrong)

/-- 'laws.FnExactValidBooks': WHATEVER THE INPUT: true; the input reads as it did. -/
def fnExactValidBooksSpec : ChangeSpec := { name := "fnExactValidBooks", fn := fun _ => fun
  | [d] => { results := [.lit (.bool true)], args := [d] }
  | _ => none }
def fnExactValidBooksRow : OpenClaim := { program := "ytahpcnfoiiggeaa", sum := "af2807b0216a7543ca07cb6d222bbf99fedc8c273f770a1b393ef777332e8f4c", func := "loop.example/g01326/laws.FnExactValidBooks", spec := "fnExactValidBooks", apart := false }
def FnExactValidBooksSaid : Prop := fnExactValidBooksRow.holds Try.pinned (OpenSpec.ofChange fnExactValidBooksSpec)

/-- ITS FALSE NEIGHBOUR: 'it returns false'. Refute it at one input. -/
def fnExactValidBooksWrong : ChangeSpec := { name := "fnExactValidBooks", fn := fun _ => fun
  | [d] => { results := [.lit (.bool false)], args := [d] }
  | _ => none }
def FnExactValidBooksWrongFalsely : Prop := fnExactValidBooksRow.holds Try.pinned (OpenSpec.ofChange fnExactValidBooksWrong)

/-- 'laws.FnExactSameBooks': WHATEVER THE INPUT: true; the input reads as it did. -/
def fnExactSameBooksSpec : ChangeSpec := { name := "fnExactSameBooks", fn := fun _ => fun
  | [d1, d2] => { results := [.lit (.bool true)], args := [d1, d2] }
  | _ => none }
def fnExactSameBooksRow : OpenClaim := { program := "ytahpcnfoiiggeaa", sum := "af2807b0216a7543ca07cb6d222bbf99fedc8c273f770a1b393ef777332e8f4c", func := "loop.example/g01326/laws.FnExactSameBooks", spec := "fnExactSameBooks", apart := false }
def FnExactSameBooksSaid : Prop := fnExactSameBooksRow.holds Try.pinned (OpenSpec.ofChange fnExactSameBooksSpec)

/-- ITS FALSE NEIGHBOUR: 'it returns false'. Refute it at one input. -/
def fnExactSameBooksWrong : ChangeSpec := { name := "fnExactSameBooks", fn := fun _ => fun
  | [d1, d2] => { results := [.lit (.bool false)], args := [d1, d2] }
  | _ => none }
def FnExactSameBooksWrongFalsely : Prop := fnExactSameBooksRow.holds Try.pinned (OpenSpec.ofChange fnExactSameBooksWrong)

/-- 'laws.FnExactValidOrder': WHATEVER THE INPUT: true; the input reads as it did. -/
def fnExactValidOrderSpec : ChangeSpec := { name := "fnExactValidOrder", fn := fun _ => fun
  | [d] => { results := [.lit (.bool true)], args := [d] }
  | _ => none }
def fnExactValidOrderRow : OpenClaim := { program := "ytahpcnfoiiggeaa", sum := "af2807b0216a7543ca07cb6d222bbf99fedc8c273f770a1b393ef777332e8f4c", func := "loop.example/g01326/laws.FnExactValidOrder", spec := "fnExactValidOrder", apart := false }
def FnExactValidOrderSaid : Prop := fnExactValidOrderRow.holds Try.pinned (OpenSpec.ofChange fnExactValidOrderSpec)

/-- ITS FALSE NEIGHBOUR: 'it returns false'. Refute it at one input. -/
def fnExactValidOrderWrong : ChangeSpec := { name := "fnExactValidOrder", fn := fun _ => fun
  | [d] => { results := [.lit (.bool false)], args := [d] }
  | _ => none }
def FnExactValidOrderWrongFalsely : Prop := fnExactValidOrderRow.holds Try.pinned (OpenSpec.ofChange fnExactValidOrderWrong)

/-- 'laws.FnExactCompareBy': WHATEVER THE INPUT: true; the input reads as it did. -/
def fnExactCompareBySpec : ChangeSpec := { name := "fnExactCompareBy", fn := fun _ => fun
  | [d1, d2, d3] => { results := [.lit (.bool true)], args := [d1, d2, d3] }
  | _ => none }
def fnExactCompareByRow : OpenClaim := { program := "ytahpcnfoiiggeaa", sum := "af2807b0216a7543ca07cb6d222bbf99fedc8c273f770a1b393ef777332e8f4c", func := "loop.example/g01326/laws.FnExactCompareBy", spec := "fnExactCompareBy", unfollowed := true, recurses := true, apart := false }
def FnExactCompareBySaid : Prop := fnExactCompareByRow.holds Try.pinned (OpenSpec.ofChange fnExactCompareBySpec)

/-- ITS FALSE NEIGHBOUR: 'it returns false'. Refute it at one input. -/
def fnExactCompareByWrong : ChangeSpec := { name := "fnExactCompareBy", fn := fun _ => fun
  | [d1, d2, d3] => { results := [.lit (.bool false)], args := [d1, d2, d3] }
  | _ => none }
def FnExactCompareByWrongFalsely : Prop := fnExactCompareByRow.holds Try.pinned (OpenSpec.ofChange fnExactCompareByWrong)

/-- 'laws.FnExactCompareBooks': WHATEVER THE INPUT: true; the input reads as it did. -/
def fnExactCompareBooksSpec : ChangeSpec := { name := "fnExactCompareBooks", fn := fun _ => fun
  | [d1, d2] => { results := [.lit (.bool true)], args := [d1, d2] }
  | _ => none }
def fnExactCompareBooksRow : OpenClaim := { program := "ytahpcnfoiiggeaa", sum := "af2807b0216a7543ca07cb6d222bbf99fedc8c273f770a1b393ef777332e8f4c", func := "loop.example/g01326/laws.FnExactCompareBooks", spec := "fnExactCompareBooks", unfollowed := true, recurses := true, apart := false }
def FnExactCompareBooksSaid : Prop := fnExactCompareBooksRow.holds Try.pinned (OpenSpec.ofChange fnExactCompareBooksSpec)

/-- ITS FALSE NEIGHBOUR: 'it returns false'. Refute it at one input. -/
def fnExactCompareBooksWrong : ChangeSpec := { name := "fnExactCompareBooks", fn := fun _ => fun
  | [d1, d2] => { results := [.lit (.bool false)], args := [d1, d2] }
  | _ => none }
def FnExactCompareBooksWrongFalsely : Prop := fnExactCompareBooksRow.holds Try.pinned (OpenSpec.ofChange fnExactCompareBooksWrong)

/-- 'laws.FnExactFirstOut': WHATEVER THE INPUT: true; the input reads as it did. -/
def fnExactFirstOutSpec : ChangeSpec := { name := "fnExactFirstOut", fn := fun _ => fun
  | [d] => { results := [.lit (.bool true)], args := [d] }
  | _ => none }
def fnExactFirstOutRow : OpenClaim := { program := "ytahpcnfoiiggeaa", sum := "af2807b0216a7543ca07cb6d222bbf99fedc8c273f770a1b393ef777332e8f4c", func := "loop.example/g01326/laws.FnExactFirstOut", spec := "fnExactFirstOut", unfollowed := true, recurses := true, apart := false }
def FnExactFirstOutSaid : Prop := fnExactFirstOutRow.holds Try.pinned (OpenSpec.ofChange fnExactFirstOutSpec)

/-- ITS FALSE NEIGHBOUR: 'it returns false'. Refute it at one input. -/
def fnExactFirstOutWrong : ChangeSpec := { name := "fnExactFirstOut", fn := fun _ => fun
  | [d] => { results := [.lit (.bool false)], args := [d] }
  | _ => none }
def FnExactFirstOutWrongFalsely : Prop := fnExactFirstOutRow.holds Try.pinned (OpenSpec.ofChange fnExactFirstOutWrong)

/-- 'laws.FnExactRunsOf': WHATEVER THE INPUT: true; the input reads as it did. -/
def fnExactRunsOfSpec : ChangeSpec := { name := "fnExactRunsOf", fn := fun _ => fun
  | [d] => { results := [.lit (.bool true)], args := [d] }
  | _ => none }
def fnExactRunsOfRow : OpenClaim := { program := "ytahpcnfoiiggeaa", sum := "af2807b0216a7543ca07cb6d222bbf99fedc8c273f770a1b393ef777332e8f4c", func := "loop.example/g01326/laws.FnExactRunsOf", spec := "fnExactRunsOf", unfollowed := true, recurses := true, apart := false }
def FnExactRunsOfSaid : Prop := fnExactRunsOfRow.holds Try.pinned (OpenSpec.ofChange fnExactRunsOfSpec)

/-- ITS FALSE NEIGHBOUR: 'it returns false'. Refute it at one input. -/
def fnExactRunsOfWrong : ChangeSpec := { name := "fnExactRunsOf", fn := fun _ => fun
  | [d] => { results := [.lit (.bool false)], args := [d] }
  | _ => none }
def FnExactRunsOfWrongFalsely : Prop := fnExactRunsOfRow.holds Try.pinned (OpenSpec.ofChange fnExactRunsOfWrong)

/-- 'laws.FnExactLongestRun': WHATEVER THE INPUT: true; the input reads as it did. -/
def fnExactLongestRunSpec : ChangeSpec := { name := "fnExactLongestRun", fn := fun _ => fun
  | [d] => { results := [.lit (.bool true)], args := [d] }
  | _ => none }
def fnExactLongestRunRow : OpenClaim := { program := "ytahpcnfoiiggeaa", sum := "af2807b0216a7543ca07cb6d222bbf99fedc8c273f770a1b393ef777332e8f4c", func := "loop.example/g01326/laws.FnExactLongestRun", spec := "fnExactLongestRun", unfollowed := true, recurses := true, apart := false }
def FnExactLongestRunSaid : Prop := fnExactLongestRunRow.holds Try.pinned (OpenSpec.ofChange fnExactLongestRunSpec)

/-- ITS FALSE NEIGHBOUR: 'it returns false'. Refute it at one input. -/
def fnExactLongestRunWrong : ChangeSpec := { name := "fnExactLongestRun", fn := fun _ => fun
  | [d] => { results := [.lit (.bool false)], args := [d] }
  | _ => none }
def FnExactLongestRunWrongFalsely : Prop := fnExactLongestRunRow.holds Try.pinned (OpenSpec.ofChange fnExactLongestRunWrong)

/- THE SECOND FORM. 'bulk': how many values and letters a reading holds, each counted each time it is reached (what is shared counts as often as it is met; a slice's spare places count too). A statement '..UptoSaid' is the law's where the arguments, and the package variables that the reading takes, are together of bulk at most 1048576: NARROWER than '..Said'. Prove '..Said' where nothing that the law and all that it calls make is longer than what came in: it says more and counts as full. Else prove '..UptoSaid'. A law counts once. -/
mutual
def uptoBulk {H : Type} : DataW H → Nat
  | .lit (.string bytes) => bytes.length + 1
  | .lit _ => 1
  | .nil => 1
  | .ptr d => uptoBulk d + 1
  | .slice elems spare => uptoBulkAll elems + uptoBulkAll spare + 1
  | .agg parts => uptoBulkAll parts + 1
  | .iface _ d => uptoBulk d + 1
  | .map entries => uptoBulkEntries entries + 1
  | .held _ => 1
def uptoBulkAll {H : Type} : List (DataW H) → Nat
  | [] => 0
  | d :: r => uptoBulk d + uptoBulkAll r
def uptoBulkEntries {H : Type} : List (Lit × DataW H) → Nat
  | [] => 0
  | x :: r => uptoBulkEntry x + uptoBulkEntries r
def uptoBulkEntry {H : Type} : Lit × DataW H → Nat
  | (.string bytes, d) => bytes.length + uptoBulk d + 1
  | (_, d) => uptoBulk d + 1
 end
def uptoSmall : (H : Type) → List (DataW H) → Bool := fun _ ds => decide (uptoBulkAll ds ≤ 1048576)
def OpenSpec.upto (s : _root_.Go.ChangeSpec) : _root_.Go.OpenSpec := { _root_.Go.OpenSpec.ofChange s with cond := some uptoSmall }

/-- 'laws.FnExactCodeName', WHERE WHAT IT READS IS OF BULK AT MOST 1048576: true; the input reads as it did. -/
def fnExactCodeNameUptoRow : OpenClaim := { program := "ytahpcnfoiiggeaa", sum := "af2807b0216a7543ca07cb6d222bbf99fedc8c273f770a1b393ef777332e8f4c", func := "loop.example/g01326/laws.FnExactCodeName", spec := "fnExactCodeName", apart := false, narrowed := true }
def FnExactCodeNameUptoSaid : Prop := fnExactCodeNameUptoRow.holds Try.pinned (OpenSpec.upto fnExactCodeNameSpec)

/-- 'laws.FnExactValidBook', WHERE WHAT IT READS IS OF BULK AT MOST 1048576: true; the input reads as it did. -/
def fnExactValidBookUptoRow : OpenClaim := { program := "ytahpcnfoiiggeaa", sum := "af2807b0216a7543ca07cb6d222bbf99fedc8c273f770a1b393ef777332e8f4c", func := "loop.example/g01326/laws.FnExactValidBook", spec := "fnExactValidBook", apart := false, narrowed := true }
def FnExactValidBookUptoSaid : Prop := fnExactValidBookUptoRow.holds Try.pinned (OpenSpec.upto fnExactValidBookSpec)

/-- 'laws.FnExactValidBooks', WHERE WHAT IT READS IS OF BULK AT MOST 1048576: true; the input reads as it did. -/
def fnExactValidBooksUptoRow : OpenClaim := { program := "ytahpcnfoiiggeaa", sum := "af2807b0216a7543ca07cb6d222bbf99fedc8c273f770a1b393ef777332e8f4c", func := "loop.example/g01326/laws.FnExactValidBooks", spec := "fnExactValidBooks", apart := false, narrowed := true }
def FnExactValidBooksUptoSaid : Prop := fnExactValidBooksUptoRow.holds Try.pinned (OpenSpec.upto fnExactValidBooksSpec)

/-- 'laws.FnExactSameBooks', WHERE WHAT IT READS IS OF BULK AT MOST 1048576: true; the input reads as it did. -/
def fnExactSameBooksUptoRow : OpenClaim := { program := "ytahpcnfoiiggeaa", sum := "af2807b0216a7543ca07cb6d222bbf99fedc8c273f770a1b393ef777332e8f4c", func := "loop.example/g01326/laws.FnExactSameBooks", spec := "fnExactSameBooks", apart := false, narrowed := true }
def FnExactSameBooksUptoSaid : Prop := fnExactSameBooksUptoRow.holds Try.pinned (OpenSpec.upto fnExactSameBooksSpec)

/-- 'laws.FnExactValidOrder', WHERE WHAT IT READS IS OF BULK AT MOST 1048576: true; the input reads as it did. -/
def fnExactValidOrderUptoRow : OpenClaim := { program := "ytahpcnfoiiggeaa", sum := "af2807b0216a7543ca07cb6d222bbf99fedc8c273f770a1b393ef777332e8f4c", func := "loop.example/g01326/laws.FnExactValidOrder", spec := "fnExactValidOrder", apart := false, narrowed := true }
def FnExactValidOrderUptoSaid : Prop := fnExactValidOrderUptoRow.holds Try.pinned (OpenSpec.upto fnExactValidOrderSpec)

/-- 'laws.FnExactCompareBy', WHERE WHAT IT READS IS OF BULK AT MOST 1048576: true; the input reads as it did. -/
def fnExactCompareByUptoRow : OpenClaim := { program := "ytahpcnfoiiggeaa", sum := "af2807b0216a7543ca07cb6d222bbf99fedc8c273f770a1b393ef777332e8f4c", func := "loop.example/g01326/laws.FnExactCompareBy", spec := "fnExactCompareBy", unfollowed := true, recurses := true, apart := false, narrowed := true }
def FnExactCompareByUptoSaid : Prop := fnExactCompareByUptoRow.holds Try.pinned (OpenSpec.upto fnExactCompareBySpec)

/-- 'laws.FnExactCompareBooks', WHERE WHAT IT READS IS OF BULK AT MOST 1048576: true; the input reads as it did. -/
def fnExactCompareBooksUptoRow : OpenClaim := { program := "ytahpcnfoiiggeaa", sum := "af2807b0216a7543ca07cb6d222bbf99fedc8c273f770a1b393ef777332e8f4c", func := "loop.example/g01326/laws.FnExactCompareBooks", spec := "fnExactCompareBooks", unfollowed := true, recurses := true, apart := false, narrowed := true }
def FnExactCompareBooksUptoSaid : Prop := fnExactCompareBooksUptoRow.holds Try.pinned (OpenSpec.upto fnExactCompareBooksSpec)

/-- 'laws.FnExactFirstOut', WHERE WHAT IT READS IS OF BULK AT MOST 1048576: true; the input reads as it did. -/
def fnExactFirstOutUptoRow : OpenClaim := { program := "ytahpcnfoiiggeaa", sum := "af2807b0216a7543ca07cb6d222bbf99fedc8c273f770a1b393ef777332e8f4c", func := "loop.example/g01326/laws.FnExactFirstOut", spec := "fnExactFirstOut", unfollowed := true, recurses := true, apart := false, narrowed := true }
def FnExactFirstOutUptoSaid : Prop := fnExactFirstOutUptoRow.holds Try.pinned (OpenSpec.upto fnExactFirstOutSpec)

/-- 'laws.FnExactRunsOf', WHERE WHAT IT READS IS OF BULK AT MOST 1048576: true; the input reads as it did. -/
def fnExactRunsOfUptoRow : OpenClaim := { program := "ytahpcnfoiiggeaa", sum := "af2807b0216a7543ca07cb6d222bbf99fedc8c273f770a1b393ef777332e8f4c", func := "loop.example/g01326/laws.FnExactRunsOf", spec := "fnExactRunsOf", unfollowed := true, recurses := true, apart := false, narrowed := true }
def FnExactRunsOfUptoSaid : Prop := fnExactRunsOfUptoRow.holds Try.pinned (OpenSpec.upto fnExactRunsOfSpec)

/-- 'laws.FnExactLongestRun', WHERE WHAT IT READS IS OF BULK AT MOST 1048576: true; the input reads as it did. -/
def fnExactLongestRunUptoRow : OpenClaim := { program := "ytahpcnfoiiggeaa", sum := "af2807b0216a7543ca07cb6d222bbf99fedc8c273f770a1b393ef777332e8f4c", func := "loop.example/g01326/laws.FnExactLongestRun", spec := "fnExactLongestRun", unfollowed := true, recurses := true, apart := false, narrowed := true }
def FnExactLongestRunUptoSaid : Prop := fnExactLongestRunUptoRow.holds Try.pinned (OpenSpec.upto fnExactLongestRunSpec)

end Rows
end Go.Proofs.Ytahpcnfoiiggeaa
