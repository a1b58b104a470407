/-
  No cell of these rows narrows 'for every input' (looked for: loops, veiled, ifaces, maps, wideKeys, modest, calm, conditions, laid).
  DERIVED. THE GIVEN ROWS OF THIS SEAT. 4 by the template 'for every input the law returns true; each argument reads behind the call as it read before'; 0 by the template 'total and deterministic' (their statements: YtlphpajpjpohmabTotals.lean).
  GIVEN WITH THE SEED: the statements are not yours to turn. If you find one false, say at which input.
  Laid BY PROGRAM, IN A SANDBOX (cutbox-rows.mjs): the forced cells as the released guide's own fill.sh prints them over the translation b2e705723d4c5bfe… (all of the seat's roots in one cut). By AI agents, Wed Nov 11 2026. No macro, syntax, notation, axiom, sorry.
-/
import Derived.Test.YtlphpajpjpohmabChecked
import GoSem.Claim
import GoSem.ClaimJoined
import GoSem.ClaimMapViews
import Derived.JoinedTies
import Derived.KernelRfl
namespace Go.Proofs.Ytlphpajpjpohmab
/- THE CELL 'sum', in the pinned program and in every row, IS THE sha256 OF THE DUMP (.gsa) THAT YtlphpajpjpohmabProg.lean LOADS. Nothing in Lean hashes anything: it is a label: what it is worth is what the hold of that sum in a sandbox is worth. -/
noncomputable def Try.pinned : Pinned := { name := "ytlphpajpjpohmab", sum := "b2e705723d4c5bfe2bc7fc32afd7d2ae0ef46898929def4de3184a37a77fddb1", checked := Try.checked }
namespace Rows
def none {H : Type} : Left H := { results := [], args := [] }

/-- 'laws.FnExactSameRack': WHATEVER THE INPUT: true; the input reads as it did. -/
def fnExactSameRackSpec : ChangeSpec := { name := "fnExactSameRack", fn := fun _ => fun
  | [d1, d2] => { results := [.lit (.bool true)], args := [d1, d2] }
  | _ => none }
def fnExactSameRackRow : OpenClaim := { program := "ytlphpajpjpohmab", sum := "b2e705723d4c5bfe2bc7fc32afd7d2ae0ef46898929def4de3184a37a77fddb1", func := "loop.example/g01326/laws.FnExactSameRack", spec := "fnExactSameRack", apart := false }
def FnExactSameRackSaid : Prop := fnExactSameRackRow.holds Try.pinned (OpenSpec.ofChange fnExactSameRackSpec)

/-- ITS FALSE NEIGHBOUR: 'it returns false'. Refute it at one input. -/
def fnExactSameRackWrong : ChangeSpec := { name := "fnExactSameRack", fn := fun _ => fun
  | [d1, d2] => { results := [.lit (.bool false)], args := [d1, d2] }
  | _ => none }
def FnExactSameRackWrongFalsely : Prop := fnExactSameRackRow.holds Try.pinned (OpenSpec.ofChange fnExactSameRackWrong)

/-- 'laws.FnExactShelvesNeeded': WHATEVER THE INPUT: true; the input reads as it did. -/
def fnExactShelvesNeededSpec : ChangeSpec := { name := "fnExactShelvesNeeded", fn := fun _ => fun
  | [d1, d2, d3, d4] => { results := [.lit (.bool true)], args := [d1, d2, d3, d4] }
  | _ => none }
def fnExactShelvesNeededRow : OpenClaim := { program := "ytlphpajpjpohmab", sum := "b2e705723d4c5bfe2bc7fc32afd7d2ae0ef46898929def4de3184a37a77fddb1", func := "loop.example/g01326/laws.FnExactShelvesNeeded", spec := "fnExactShelvesNeeded", unfollowed := true, recurses := true, apart := false }
def FnExactShelvesNeededSaid : Prop := fnExactShelvesNeededRow.holds Try.pinned (OpenSpec.ofChange fnExactShelvesNeededSpec)

/-- ITS FALSE NEIGHBOUR: 'it returns false'. Refute it at one input. -/
def fnExactShelvesNeededWrong : ChangeSpec := { name := "fnExactShelvesNeeded", fn := fun _ => fun
  | [d1, d2, d3, d4] => { results := [.lit (.bool false)], args := [d1, d2, d3, d4] }
  | _ => none }
def FnExactShelvesNeededWrongFalsely : Prop := fnExactShelvesNeededRow.holds Try.pinned (OpenSpec.ofChange fnExactShelvesNeededWrong)

/-- 'laws.FnExactShelvesBound': WHATEVER THE INPUT: true; the input reads as it did. -/
def fnExactShelvesBoundSpec : ChangeSpec := { name := "fnExactShelvesBound", fn := fun _ => fun
  | [d1, d2, d3, d4] => { results := [.lit (.bool true)], args := [d1, d2, d3, d4] }
  | _ => none }
def fnExactShelvesBoundRow : OpenClaim := { program := "ytlphpajpjpohmab", sum := "b2e705723d4c5bfe2bc7fc32afd7d2ae0ef46898929def4de3184a37a77fddb1", func := "loop.example/g01326/laws.FnExactShelvesBound", spec := "fnExactShelvesBound", unfollowed := true, recurses := true, apart := false }
def FnExactShelvesBoundSaid : Prop := fnExactShelvesBoundRow.holds Try.pinned (OpenSpec.ofChange fnExactShelvesBoundSpec)

/-- ITS FALSE NEIGHBOUR: 'it returns false'. Refute it at one input. -/
def fnExactShelvesBoundWrong : ChangeSpec := { name := "fnExactShelvesBound", fn := fun _ => fun
  | [d1, d2, d3, d4] => { results := [.lit (.bool false)], args := [d1, d2, d3, d4] }
  | _ => none }
def FnExactShelvesBoundWrongFalsely : Prop := fnExactShelvesBoundRow.holds Try.pinned (OpenSpec.ofChange fnExactShelvesBoundWrong)

/-- 'laws.FnExactGroupBooks': WHATEVER THE INPUT: true; the input reads as it did. -/
def fnExactGroupBooksSpec : ChangeSpec := { name := "fnExactGroupBooks", fn := fun _ => fun
  | [d1, d2, d3] => { results := [.lit (.bool true)], args := [d1, d2, d3] }
  | _ => none }
def fnExactGroupBooksRow : OpenClaim := { program := "ytlphpajpjpohmab", sum := "b2e705723d4c5bfe2bc7fc32afd7d2ae0ef46898929def4de3184a37a77fddb1", func := "loop.example/g01326/laws.FnExactGroupBooks", spec := "fnExactGroupBooks", unfollowed := true, recurses := true, apart := false }
def FnExactGroupBooksSaid : Prop := fnExactGroupBooksRow.holds Try.pinned (OpenSpec.ofChange fnExactGroupBooksSpec)

/-- ITS FALSE NEIGHBOUR: 'it returns false'. Refute it at one input. -/
def fnExactGroupBooksWrong : ChangeSpec := { name := "fnExactGroupBooks", fn := fun _ => fun
  | [d1, d2, d3] => { results := [.lit (.bool false)], args := [d1, d2, d3] }
  | _ => none }
def FnExactGroupBooksWrongFalsely : Prop := fnExactGroupBooksRow.holds Try.pinned (OpenSpec.ofChange fnExactGroupBooksWrong)

/- THE SECOND FORM. 'bulk': how many values and letters a reading holds, each counted each time it is reached (what is shared counts as often as it is met; a slice's spare places count too). A statement '..UptoSaid' is the law's where the arguments, and the package variables that the reading takes, are together of bulk at most 1048576: NARROWER than '..Said'. Prove '..Said' where nothing that the law and all that it calls make is longer than what came in: it says more and counts as full. Else prove '..UptoSaid'. A law counts once. -/
mutual
def uptoBulk {H : Type} : DataW H → Nat
  | .lit (.string bytes) => bytes.length + 1
  | .lit _ => 1
  | .nil => 1
  | .ptr d => uptoBulk d + 1
  | .slice elems spare => uptoBulkAll elems + uptoBulkAll spare + 1
  | .agg parts => uptoBulkAll parts + 1
  | .iface _ d => uptoBulk d + 1
  | .map entries => uptoBulkEntries entries + 1
  | .held _ => 1
def uptoBulkAll {H : Type} : List (DataW H) → Nat
  | [] => 0
  | d :: r => uptoBulk d + uptoBulkAll r
def uptoBulkEntries {H : Type} : List (Lit × DataW H) → Nat
  | [] => 0
  | x :: r => uptoBulkEntry x + uptoBulkEntries r
def uptoBulkEntry {H : Type} : Lit × DataW H → Nat
  | (.string bytes, d) => bytes.length + uptoBulk d + 1
  | (_, d) => uptoBulk d + 1
 end
def uptoSmall : (H : Type) → List (DataW H) → Bool := fun _ ds => decide (uptoBulkAll ds ≤ 1048576)
def OpenSpec.upto (s : _root_.Go.ChangeSpec) : _root_.Go.OpenSpec := { _root_.Go.OpenSpec.ofChange s with cond := some uptoSmall }

/-- 'laws.FnExactSameRack', WHERE WHAT IT READS IS OF BULK AT MOST 1048576: true; the input reads as it did. -/
def fnExactSameRackUptoRow : OpenClaim := { program := "ytlphpajpjpohmab", sum := "b2e705723d4c5bfe2bc7fc32afd7d2ae0ef46898929def4de3184a37a77fddb1", func := "loop.example/g01326/laws.FnExactSameRack", spec := "fnExactSameRack", apart := false, narrowed := true }
def FnExactSameRackUptoSaid : Prop := fnExactSameRackUptoRow.holds Try.pinned (OpenSpec.upto fnExactSameRackSpec)

/-- 'laws.FnExactShelvesNeeded', WHERE WHAT IT READS IS OF BULK AT MOST 1048576: true; the input reads as it did. -/
def fnExactShelvesNeededUptoRow : OpenClaim := { program := "ytlphpajpjpohmab", sum := "b2e705723d4c5bfe2bc7fc32afd7d2ae0ef46898929def4de3184a37a77fddb1", func := "loop.example/g01326/laws.FnExactShelvesNeeded", spec := "fnExactShelvesNeeded", unfollowed := true, recurses := true, apart := false, narrowed := true }
def FnExactShelvesNeededUptoSaid : Prop := fnExactShelvesNeededUptoRow.holds Try.pinned (OpenSpec.upto fnExactShelvesNeededSpec)

/-- 'laws.FnExactShelvesBound', WHERE WHAT IT READS IS OF BULK AT MOST 1048576: true; the input reads as it did. -/
def fnExactShelvesBoundUptoRow : OpenClaim := { program := "ytlphpajpjpohmab", sum := "b2e705723d4c5bfe2bc7fc32afd7d2ae0ef46898929def4de3184a37a77fddb1", func := "loop.example/g01326/laws.FnExactShelvesBound", spec := "fnExactShelvesBound", unfollowed := true, recurses := true, apart := false, narrowed := true }
def FnExactShelvesBoundUptoSaid : Prop := fnExactShelvesBoundUptoRow.holds Try.pinned (OpenSpec.upto fnExactShelvesBoundSpec)

/-- 'laws.FnExactGroupBooks', WHERE WHAT IT READS IS OF BULK AT MOST 1048576: true; the input reads as it did. -/
def fnExactGroupBooksUptoRow : OpenClaim := { program := "ytlphpajpjpohmab", sum := "b2e705723d4c5bfe2bc7fc32afd7d2ae0ef46898929def4de3184a37a77fddb1", func := "loop.example/g01326/laws.FnExactGroupBooks", spec := "fnExactGroupBooks", unfollowed := true, recurses := true, apart := false, narrowed := true }
def FnExactGroupBooksUptoSaid : Prop := fnExactGroupBooksUptoRow.holds Try.pinned (OpenSpec.upto fnExactGroupBooksSpec)

end Rows
end Go.Proofs.Ytlphpajpjpohmab
