/-
  NARROWER THAN 'FOR EVERY INPUT', by the rows' own cells (each row's printed sentence says how): FnExactOneSlip: ifaces, laid · FnExactRightPlaces: ifaces, laid · FnExactBookText: laid · FnExactBooksText: laid · FnExactCaseText: laid · FnExactLayoutText: laid · FnExactMovesText: laid · FnExactHeightsText: laid · FnExactRackText: ifaces, laid · FnExactActText: laid · FnExactActsText: laid · FnExactSplitRack: ifaces, laid.
  DERIVED. THE GIVEN ROWS OF THIS SEAT. 12 by the template 'for every input the law returns true; each argument reads behind the call as it read before'; 0 by the template 'total and deterministic' (their statements: YtaahfcdpgcfmhaaDoorTotals.lean).
  GIVEN WITH THE SEED: the statements are not yours to turn. If you find one false, say at which input.
  Laid BY PROGRAM, IN A SANDBOX (cutbox-rows.mjs): the forced cells as the released guide's own fill.sh prints them over the translation 63e5fc7dc271419d… (all of the seat's roots in one cut). By AI agents, Wed Nov 11 2026. No macro, syntax, notation, axiom, sorry.
-/
import Derived.Test.YtaahfcdpgcfmhaaDoorChecked
import GoSem.Claim
import GoSem.ClaimJoined
import GoSem.ClaimMapViews
import Derived.JoinedTies
import Derived.KernelRfl
namespace Go.Proofs.YtaahfcdpgcfmhaaDoor
/- THE CELL 'sum', in the pinned program and in every row, IS THE sha256 OF THE DUMP (.gsa) THAT YtaahfcdpgcfmhaaDoorProg.lean LOADS. Nothing in Lean hashes anything: it is a label: what it is worth is what the hold of that sum in a sandbox is worth. -/
noncomputable def Tryd.pinned : Pinned := { name := "ytaahfcdpgcfmhaadoor", sum := "63e5fc7dc271419d0bc924af251606482188d6153ca0a72761fae90723d97882", checked := Tryd.checked }
namespace Rows
def none {H : Type} : Left H := { results := [], args := [] }

/- WHAT THE LISTED PACKAGE-LEVEL VARIABLES READ AS WHEN THE CALL BEGINS. Each datum BY PROGRAM (the guide's laid-datum.mjs) off the statement by which the dump's own 'gosem.cut.vars' lays the variable. In a bare row this is a premise. The card (YtaahfcdpgcfmhaaDoorCards.lean) ties it to the program's text. -/
def laid_loop_example_g01326_impl_errInvalid {H : Type} : DataW H := .iface "*errors.errorString" (.ptr (.agg [.lit (.string [105, 110, 118, 97, 108, 105, 100])]))
def laid_loop_example_g01326_impl_errState {H : Type} : DataW H := .iface "*errors.errorString" (.ptr (.agg [.lit (.string [115, 116, 97, 116, 101])]))
def laid_loop_example_g01326_impl_errSyntax {H : Type} : DataW H := .iface "*errors.errorString" (.ptr (.agg [.lit (.string [115, 121, 110, 116, 97, 120])]))
def laid_math_bits_deBruijn32tab {H : Type} : DataW H := .agg [.lit (.int .u8 0), .lit (.int .u8 1), .lit (.int .u8 28), .lit (.int .u8 2), .lit (.int .u8 29), .lit (.int .u8 14), .lit (.int .u8 24), .lit (.int .u8 3), .lit (.int .u8 30), .lit (.int .u8 22), .lit (.int .u8 20), .lit (.int .u8 15), .lit (.int .u8 25), .lit (.int .u8 17), .lit (.int .u8 4), .lit (.int .u8 8), .lit (.int .u8 31), .lit (.int .u8 27), .lit (.int .u8 13), .lit (.int .u8 23), .lit (.int .u8 21), .lit (.int .u8 19), .lit (.int .u8 16), .lit (.int .u8 7), .lit (.int .u8 26), .lit (.int .u8 12), .lit (.int .u8 18), .lit (.int .u8 6), .lit (.int .u8 11), .lit (.int .u8 5), .lit (.int .u8 10), .lit (.int .u8 9)]
def laid_math_bits_deBruijn64tab {H : Type} : DataW H := .agg [.lit (.int .u8 0), .lit (.int .u8 1), .lit (.int .u8 56), .lit (.int .u8 2), .lit (.int .u8 57), .lit (.int .u8 49), .lit (.int .u8 28), .lit (.int .u8 3), .lit (.int .u8 61), .lit (.int .u8 58), .lit (.int .u8 42), .lit (.int .u8 50), .lit (.int .u8 38), .lit (.int .u8 29), .lit (.int .u8 17), .lit (.int .u8 4), .lit (.int .u8 62), .lit (.int .u8 47), .lit (.int .u8 59), .lit (.int .u8 36), .lit (.int .u8 45), .lit (.int .u8 43), .lit (.int .u8 51), .lit (.int .u8 22), .lit (.int .u8 53), .lit (.int .u8 39), .lit (.int .u8 33), .lit (.int .u8 30), .lit (.int .u8 24), .lit (.int .u8 18), .lit (.int .u8 12), .lit (.int .u8 5), .lit (.int .u8 63), .lit (.int .u8 55), .lit (.int .u8 48), .lit (.int .u8 27), .lit (.int .u8 60), .lit (.int .u8 41), .lit (.int .u8 37), .lit (.int .u8 16), .lit (.int .u8 46), .lit (.int .u8 35), .lit (.int .u8 44), .lit (.int .u8 21), .lit (.int .u8 52), .lit (.int .u8 32), .lit (.int .u8 23), .lit (.int .u8 11), .lit (.int .u8 54), .lit (.int .u8 26), .lit (.int .u8 40), .lit (.int .u8 15), .lit (.int .u8 34), .lit (.int .u8 20), .lit (.int .u8 31), .lit (.int .u8 10), .lit (.int .u8 25), .lit (.int .u8 14), .lit (.int .u8 19), .lit (.int .u8 9), .lit (.int .u8 13), .lit (.int .u8 8), .lit (.int .u8 7), .lit (.int .u8 6)]
def laid_internal_strconv_uint64pow10 {H : Type} : DataW H := .agg [.lit (.int .u64 1), .lit (.int .u64 10), .lit (.int .u64 100), .lit (.int .u64 1000), .lit (.int .u64 10000), .lit (.int .u64 100000), .lit (.int .u64 1000000), .lit (.int .u64 10000000), .lit (.int .u64 100000000), .lit (.int .u64 1000000000), .lit (.int .u64 10000000000), .lit (.int .u64 100000000000), .lit (.int .u64 1000000000000), .lit (.int .u64 10000000000000), .lit (.int .u64 100000000000000), .lit (.int .u64 1000000000000000), .lit (.int .u64 10000000000000000), .lit (.int .u64 100000000000000000), .lit (.int .u64 1000000000000000000), .lit (.int .u64 10000000000000000000)]

/-- 'laws.FnExactOneSlip': WHATEVER THE INPUT: true; the input reads as it did. -/
def fnExactOneSlipSpec : ChangeSpec := { name := "fnExactOneSlip", vars := ["loop.example/g01326/impl.errInvalid", "loop.example/g01326/impl.errState", "loop.example/g01326/impl.errSyntax"], fn := fun _ => fun
  | [d1, d2, g1, g2, g3] => { results := [.lit (.bool true)], args := [d1, d2], vars := [g1, g2, g3] }
  | _ => none }
def fnExactOneSlipRow : OpenClaim := { program := "ytaahfcdpgcfmhaadoor", sum := "63e5fc7dc271419d0bc924af251606482188d6153ca0a72761fae90723d97882", func := "loop.example/g01326/laws.FnExactOneSlip", spec := "fnExactOneSlip", inPlace := ["internal/reflectlite.TypeOf"], unfollowed := true, recurses := true, named := ["loop.example/g01326/impl.errInvalid", "loop.example/g01326/impl.errState", "loop.example/g01326/impl.errSyntax"], ifaces := true, plainKeys := false, apart := false, laid := [("loop.example/g01326/impl.errInvalid", laid_loop_example_g01326_impl_errInvalid), ("loop.example/g01326/impl.errState", laid_loop_example_g01326_impl_errState), ("loop.example/g01326/impl.errSyntax", laid_loop_example_g01326_impl_errSyntax)] }
def FnExactOneSlipSaid : Prop := fnExactOneSlipRow.holds Tryd.pinned (OpenSpec.ofChange fnExactOneSlipSpec)

/-- ITS FALSE NEIGHBOUR: 'it returns false'. Refute it at one input. -/
def fnExactOneSlipWrong : ChangeSpec := { name := "fnExactOneSlip", vars := ["loop.example/g01326/impl.errInvalid", "loop.example/g01326/impl.errState", "loop.example/g01326/impl.errSyntax"], fn := fun _ => fun
  | [d1, d2, g1, g2, g3] => { results := [.lit (.bool false)], args := [d1, d2], vars := [g1, g2, g3] }
  | _ => none }
def FnExactOneSlipWrongFalsely : Prop := fnExactOneSlipRow.holds Tryd.pinned (OpenSpec.ofChange fnExactOneSlipWrong)

/-- 'laws.FnExactRightPlaces': WHATEVER THE INPUT: true; the input reads as it did. -/
def fnExactRightPlacesSpec : ChangeSpec := { name := "fnExactRightPlaces", vars := ["loop.example/g01326/impl.errInvalid", "loop.example/g01326/impl.errState", "loop.example/g01326/impl.errSyntax"], fn := fun _ => fun
  | [d1, d2, g1, g2, g3] => { results := [.lit (.bool true)], args := [d1, d2], vars := [g1, g2, g3] }
  | _ => none }
def fnExactRightPlacesRow : OpenClaim := { program := "ytaahfcdpgcfmhaadoor", sum := "63e5fc7dc271419d0bc924af251606482188d6153ca0a72761fae90723d97882", func := "loop.example/g01326/laws.FnExactRightPlaces", spec := "fnExactRightPlaces", inPlace := ["internal/reflectlite.TypeOf"], unfollowed := true, recurses := true, named := ["loop.example/g01326/impl.errInvalid", "loop.example/g01326/impl.errState", "loop.example/g01326/impl.errSyntax"], ifaces := true, plainKeys := false, apart := false, laid := [("loop.example/g01326/impl.errInvalid", laid_loop_example_g01326_impl_errInvalid), ("loop.example/g01326/impl.errState", laid_loop_example_g01326_impl_errState), ("loop.example/g01326/impl.errSyntax", laid_loop_example_g01326_impl_errSyntax)] }
def FnExactRightPlacesSaid : Prop := fnExactRightPlacesRow.holds Tryd.pinned (OpenSpec.ofChange fnExactRightPlacesSpec)

/-- ITS FALSE NEIGHBOUR: 'it returns false'. Refute it at one input. -/
def fnExactRightPlacesWrong : ChangeSpec := { name := "fnExactRightPlaces", vars := ["loop.example/g01326/impl.errInvalid", "loop.example/g01326/impl.errState", "loop.example/g01326/impl.errSyntax"], fn := fun _ => fun
  | [d1, d2, g1, g2, g3] => { results := [.lit (.bool false)], args := [d1, d2], vars := [g1, g2, g3] }
  | _ => none }
def FnExactRightPlacesWrongFalsely : Prop := fnExactRightPlacesRow.holds Tryd.pinned (OpenSpec.ofChange fnExactRightPlacesWrong)

/-- 'laws.FnExactBookText': WHATEVER THE INPUT: true; the input reads as it did. -/
def fnExactBookTextSpec : ChangeSpec := { name := "fnExactBookText", fn := fun _ => fun
  | [d] => { results := [.lit (.bool true)], args := [d] }
  | _ => none }
def fnExactBookTextRow : OpenClaim := { program := "ytaahfcdpgcfmhaadoor", sum := "63e5fc7dc271419d0bc924af251606482188d6153ca0a72761fae90723d97882", func := "loop.example/g01326/laws.FnExactBookText", spec := "fnExactBookText", recurses := true, named := ["internal/strconv.uint64pow10", "math/bits.deBruijn32tab", "math/bits.deBruijn64tab"], plainKeys := false, apart := false, laid := [("math/bits.deBruijn32tab", laid_math_bits_deBruijn32tab), ("math/bits.deBruijn64tab", laid_math_bits_deBruijn64tab), ("internal/strconv.uint64pow10", laid_internal_strconv_uint64pow10)] }
def FnExactBookTextSaid : Prop := fnExactBookTextRow.holds Tryd.pinned (OpenSpec.ofChange fnExactBookTextSpec)

/-- ITS FALSE NEIGHBOUR: 'it returns false'. Refute it at one input. -/
def fnExactBookTextWrong : ChangeSpec := { name := "fnExactBookText", fn := fun _ => fun
  | [d] => { results := [.lit (.bool false)], args := [d] }
  | _ => none }
def FnExactBookTextWrongFalsely : Prop := fnExactBookTextRow.holds Tryd.pinned (OpenSpec.ofChange fnExactBookTextWrong)

/-- 'laws.FnExactBooksText': WHATEVER THE INPUT: true; the input reads as it did. -/
def fnExactBooksTextSpec : ChangeSpec := { name := "fnExactBooksText", fn := fun _ => fun
  | [d] => { results := [.lit (.bool true)], args := [d] }
  | _ => none }
def fnExactBooksTextRow : OpenClaim := { program := "ytaahfcdpgcfmhaadoor", sum := "63e5fc7dc271419d0bc924af251606482188d6153ca0a72761fae90723d97882", func := "loop.example/g01326/laws.FnExactBooksText", spec := "fnExactBooksText", recurses := true, named := ["internal/strconv.uint64pow10", "math/bits.deBruijn32tab", "math/bits.deBruijn64tab"], plainKeys := false, apart := false, laid := [("math/bits.deBruijn32tab", laid_math_bits_deBruijn32tab), ("math/bits.deBruijn64tab", laid_math_bits_deBruijn64tab), ("internal/strconv.uint64pow10", laid_internal_strconv_uint64pow10)] }
def FnExactBooksTextSaid : Prop := fnExactBooksTextRow.holds Tryd.pinned (OpenSpec.ofChange fnExactBooksTextSpec)

/-- ITS FALSE NEIGHBOUR: 'it returns false'. Refute it at one input. -/
def fnExactBooksTextWrong : ChangeSpec := { name := "fnExactBooksText", fn := fun _ => fun
  | [d] => { results := [.lit (.bool false)], args := [d] }
  | _ => none }
def FnExactBooksTextWrongFalsely : Prop := fnExactBooksTextRow.holds Tryd.pinned (OpenSpec.ofChange fnExactBooksTextWrong)

/-- 'laws.FnExactCaseText': WHATEVER THE INPUT: true; the input reads as it did. -/
def fnExactCaseTextSpec : ChangeSpec := { name := "fnExactCaseText", fn := fun _ => fun
  | [d] => { results := [.lit (.bool true)], args := [d] }
  | _ => none }
def fnExactCaseTextRow : OpenClaim := { program := "ytaahfcdpgcfmhaadoor", sum := "63e5fc7dc271419d0bc924af251606482188d6153ca0a72761fae90723d97882", func := "loop.example/g01326/laws.FnExactCaseText", spec := "fnExactCaseText", recurses := true, named := ["internal/strconv.uint64pow10", "math/bits.deBruijn32tab", "math/bits.deBruijn64tab"], plainKeys := false, apart := false, laid := [("math/bits.deBruijn32tab", laid_math_bits_deBruijn32tab), ("math/bits.deBruijn64tab", laid_math_bits_deBruijn64tab), ("internal/strconv.uint64pow10", laid_internal_strconv_uint64pow10)] }
def FnExactCaseTextSaid : Prop := fnExactCaseTextRow.holds Tryd.pinned (OpenSpec.ofChange fnExactCaseTextSpec)

/-- ITS FALSE NEIGHBOUR: 'it returns false'. Refute it at one input. -/
def fnExactCaseTextWrong : ChangeSpec := { name := "fnExactCaseText", fn := fun _ => fun
  | [d] => { results := [.lit (.bool false)], args := [d] }
  | _ => none }
def FnExactCaseTextWrongFalsely : Prop := fnExactCaseTextRow.holds Tryd.pinned (OpenSpec.ofChange fnExactCaseTextWrong)

/-- 'laws.FnExactLayoutText': WHATEVER THE INPUT: true; the input reads as it did. -/
def fnExactLayoutTextSpec : ChangeSpec := { name := "fnExactLayoutText", fn := fun _ => fun
  | [d] => { results := [.lit (.bool true)], args := [d] }
  | _ => none }
def fnExactLayoutTextRow : OpenClaim := { program := "ytaahfcdpgcfmhaadoor", sum := "63e5fc7dc271419d0bc924af251606482188d6153ca0a72761fae90723d97882", func := "loop.example/g01326/laws.FnExactLayoutText", spec := "fnExactLayoutText", recurses := true, named := ["internal/strconv.uint64pow10", "math/bits.deBruijn32tab", "math/bits.deBruijn64tab"], plainKeys := false, apart := false, laid := [("math/bits.deBruijn32tab", laid_math_bits_deBruijn32tab), ("math/bits.deBruijn64tab", laid_math_bits_deBruijn64tab), ("internal/strconv.uint64pow10", laid_internal_strconv_uint64pow10)] }
def FnExactLayoutTextSaid : Prop := fnExactLayoutTextRow.holds Tryd.pinned (OpenSpec.ofChange fnExactLayoutTextSpec)

/-- ITS FALSE NEIGHBOUR: 'it returns false'. Refute it at one input. -/
def fnExactLayoutTextWrong : ChangeSpec := { name := "fnExactLayoutText", fn := fun _ => fun
  | [d] => { results := [.lit (.bool false)], args := [d] }
  | _ => none }
def FnExactLayoutTextWrongFalsely : Prop := fnExactLayoutTextRow.holds Tryd.pinned (OpenSpec.ofChange fnExactLayoutTextWrong)

/-- 'laws.FnExactMovesText': WHATEVER THE INPUT: true; the input reads as it did. -/
def fnExactMovesTextSpec : ChangeSpec := { name := "fnExactMovesText", fn := fun _ => fun
  | [d] => { results := [.lit (.bool true)], args := [d] }
  | _ => none }
def fnExactMovesTextRow : OpenClaim := { program := "ytaahfcdpgcfmhaadoor", sum := "63e5fc7dc271419d0bc924af251606482188d6153ca0a72761fae90723d97882", func := "loop.example/g01326/laws.FnExactMovesText", spec := "fnExactMovesText", recurses := true, named := ["internal/strconv.uint64pow10", "math/bits.deBruijn32tab", "math/bits.deBruijn64tab"], plainKeys := false, apart := false, laid := [("math/bits.deBruijn32tab", laid_math_bits_deBruijn32tab), ("math/bits.deBruijn64tab", laid_math_bits_deBruijn64tab), ("internal/strconv.uint64pow10", laid_internal_strconv_uint64pow10)] }
def FnExactMovesTextSaid : Prop := fnExactMovesTextRow.holds Tryd.pinned (OpenSpec.ofChange fnExactMovesTextSpec)

/-- ITS FALSE NEIGHBOUR: 'it returns false'. Refute it at one input. -/
def fnExactMovesTextWrong : ChangeSpec := { name := "fnExactMovesText", fn := fun _ => fun
  | [d] => { results := [.lit (.bool false)], args := [d] }
  | _ => none }
def FnExactMovesTextWrongFalsely : Prop := fnExactMovesTextRow.holds Tryd.pinned (OpenSpec.ofChange fnExactMovesTextWrong)

/-- 'laws.FnExactHeightsText': WHATEVER THE INPUT: true; the input reads as it did. -/
def fnExactHeightsTextSpec : ChangeSpec := { name := "fnExactHeightsText", fn := fun _ => fun
  | [d1, d2] => { results := [.lit (.bool true)], args := [d1, d2] }
  | _ => none }
def fnExactHeightsTextRow : OpenClaim := { program := "ytaahfcdpgcfmhaadoor", sum := "63e5fc7dc271419d0bc924af251606482188d6153ca0a72761fae90723d97882", func := "loop.example/g01326/laws.FnExactHeightsText", spec := "fnExactHeightsText", unfollowed := true, recurses := true, named := ["internal/strconv.uint64pow10", "math/bits.deBruijn32tab", "math/bits.deBruijn64tab"], plainKeys := false, apart := false, laid := [("math/bits.deBruijn32tab", laid_math_bits_deBruijn32tab), ("math/bits.deBruijn64tab", laid_math_bits_deBruijn64tab), ("internal/strconv.uint64pow10", laid_internal_strconv_uint64pow10)] }
def FnExactHeightsTextSaid : Prop := fnExactHeightsTextRow.holds Tryd.pinned (OpenSpec.ofChange fnExactHeightsTextSpec)

/-- ITS FALSE NEIGHBOUR: 'it returns false'. Refute it at one input. -/
def fnExactHeightsTextWrong : ChangeSpec := { name := "fnExactHeightsText", fn := fun _ => fun
  | [d1, d2] => { results := [.lit (.bool false)], args := [d1, d2] }
  | _ => none }
def FnExactHeightsTextWrongFalsely : Prop := fnExactHeightsTextRow.holds Tryd.pinned (OpenSpec.ofChange fnExactHeightsTextWrong)

/-- 'laws.FnExactRackText': WHATEVER THE INPUT: true; the input reads as it did. -/
def fnExactRackTextSpec : ChangeSpec := { name := "fnExactRackText", vars := ["loop.example/g01326/impl.errInvalid", "loop.example/g01326/impl.errState"], fn := fun _ => fun
  | [d, g1, g2] => { results := [.lit (.bool true)], args := [d], vars := [g1, g2] }
  | _ => none }
def fnExactRackTextRow : OpenClaim := { program := "ytaahfcdpgcfmhaadoor", sum := "63e5fc7dc271419d0bc924af251606482188d6153ca0a72761fae90723d97882", func := "loop.example/g01326/laws.FnExactRackText", spec := "fnExactRackText", unfollowed := true, recurses := true, named := ["loop.example/g01326/impl.errInvalid", "loop.example/g01326/impl.errState"], ifaces := true, plainKeys := false, apart := false, laid := [("loop.example/g01326/impl.errInvalid", laid_loop_example_g01326_impl_errInvalid), ("loop.example/g01326/impl.errState", laid_loop_example_g01326_impl_errState)] }
def FnExactRackTextSaid : Prop := fnExactRackTextRow.holds Tryd.pinned (OpenSpec.ofChange fnExactRackTextSpec)

/-- ITS FALSE NEIGHBOUR: 'it returns false'. Refute it at one input. -/
def fnExactRackTextWrong : ChangeSpec := { name := "fnExactRackText", vars := ["loop.example/g01326/impl.errInvalid", "loop.example/g01326/impl.errState"], fn := fun _ => fun
  | [d, g1, g2] => { results := [.lit (.bool false)], args := [d], vars := [g1, g2] }
  | _ => none }
def FnExactRackTextWrongFalsely : Prop := fnExactRackTextRow.holds Tryd.pinned (OpenSpec.ofChange fnExactRackTextWrong)

/-- 'laws.FnExactActText': WHATEVER THE INPUT: true; the input reads as it did. -/
def fnExactActTextSpec : ChangeSpec := { name := "fnExactActText", fn := fun _ => fun
  | [d] => { results := [.lit (.bool true)], args := [d] }
  | _ => none }
def fnExactActTextRow : OpenClaim := { program := "ytaahfcdpgcfmhaadoor", sum := "63e5fc7dc271419d0bc924af251606482188d6153ca0a72761fae90723d97882", func := "loop.example/g01326/laws.FnExactActText", spec := "fnExactActText", recurses := true, named := ["internal/strconv.uint64pow10", "math/bits.deBruijn32tab", "math/bits.deBruijn64tab"], plainKeys := false, apart := false, laid := [("math/bits.deBruijn32tab", laid_math_bits_deBruijn32tab), ("math/bits.deBruijn64tab", laid_math_bits_deBruijn64tab), ("internal/strconv.uint64pow10", laid_internal_strconv_uint64pow10)] }
def FnExactActTextSaid : Prop := fnExactActTextRow.holds Tryd.pinned (OpenSpec.ofChange fnExactActTextSpec)

/-- ITS FALSE NEIGHBOUR: 'it returns false'. Refute it at one input. -/
def fnExactActTextWrong : ChangeSpec := { name := "fnExactActText", fn := fun _ => fun
  | [d] => { results := [.lit (.bool false)], args := [d] }
  | _ => none }
def FnExactActTextWrongFalsely : Prop := fnExactActTextRow.holds Tryd.pinned (OpenSpec.ofChange fnExactActTextWrong)

/-- 'laws.FnExactActsText': WHATEVER THE INPUT: true; the input reads as it did. -/
def fnExactActsTextSpec : ChangeSpec := { name := "fnExactActsText", fn := fun _ => fun
  | [d] => { results := [.lit (.bool true)], args := [d] }
  | _ => none }
def fnExactActsTextRow : OpenClaim := { program := "ytaahfcdpgcfmhaadoor", sum := "63e5fc7dc271419d0bc924af251606482188d6153ca0a72761fae90723d97882", func := "loop.example/g01326/laws.FnExactActsText", spec := "fnExactActsText", recurses := true, named := ["internal/strconv.uint64pow10", "math/bits.deBruijn32tab", "math/bits.deBruijn64tab"], plainKeys := false, apart := false, laid := [("math/bits.deBruijn32tab", laid_math_bits_deBruijn32tab), ("math/bits.deBruijn64tab", laid_math_bits_deBruijn64tab), ("internal/strconv.uint64pow10", laid_internal_strconv_uint64pow10)] }
def FnExactActsTextSaid : Prop := fnExactActsTextRow.holds Tryd.pinned (OpenSpec.ofChange fnExactActsTextSpec)

/-- ITS FALSE NEIGHBOUR: 'it returns false'. Refute it at one input. -/
def fnExactActsTextWrong : ChangeSpec := { name := "fnExactActsText", fn := fun _ => fun
  | [d] => { results := [.lit (.bool false)], args := [d] }
  | _ => none }
def FnExactActsTextWrongFalsely : Prop := fnExactActsTextRow.holds Tryd.pinned (OpenSpec.ofChange fnExactActsTextWrong)

/-- 'laws.FnExactSplitRack': WHATEVER THE INPUT: true; the input reads as it did. -/
def fnExactSplitRackSpec : ChangeSpec := { name := "fnExactSplitRack", vars := ["loop.example/g01326/impl.errInvalid", "loop.example/g01326/impl.errState"], fn := fun _ => fun
  | [d1, d2, g1, g2] => { results := [.lit (.bool true)], args := [d1, d2], vars := [g1, g2] }
  | _ => none }
def fnExactSplitRackRow : OpenClaim := { program := "ytaahfcdpgcfmhaadoor", sum := "63e5fc7dc271419d0bc924af251606482188d6153ca0a72761fae90723d97882", func := "loop.example/g01326/laws.FnExactSplitRack", spec := "fnExactSplitRack", unfollowed := true, recurses := true, named := ["loop.example/g01326/impl.errInvalid", "loop.example/g01326/impl.errState"], ifaces := true, plainKeys := false, apart := false, laid := [("loop.example/g01326/impl.errInvalid", laid_loop_example_g01326_impl_errInvalid), ("loop.example/g01326/impl.errState", laid_loop_example_g01326_impl_errState)] }
def FnExactSplitRackSaid : Prop := fnExactSplitRackRow.holds Tryd.pinned (OpenSpec.ofChange fnExactSplitRackSpec)

/-- ITS FALSE NEIGHBOUR: 'it returns false'. Refute it at one input. -/
def fnExactSplitRackWrong : ChangeSpec := { name := "fnExactSplitRack", vars := ["loop.example/g01326/impl.errInvalid", "loop.example/g01326/impl.errState"], fn := fun _ => fun
  | [d1, d2, g1, g2] => { results := [.lit (.bool false)], args := [d1, d2], vars := [g1, g2] }
  | _ => none }
def FnExactSplitRackWrongFalsely : Prop := fnExactSplitRackRow.holds Tryd.pinned (OpenSpec.ofChange fnExactSplitRackWrong)

/- THE SECOND FORM. 'bulk': how many values and letters a reading holds, each counted each time it is reached (what is shared counts as often as it is met; a slice's spare places count too). A statement '..UptoSaid' is the law's where the arguments, and the package variables that the reading takes, are together of bulk at most 1048576: NARROWER than '..Said'. Prove '..Said' where nothing that the law and all that it calls make is longer than what came in: it says more and counts as full. Else prove '..UptoSaid'. A law counts once. -/
mutual
def uptoBulk {H : Type} : DataW H → Nat
  | .lit (.string bytes) => bytes.length + 1
  | .lit _ => 1
  | .nil => 1
  | .ptr d => uptoBulk d + 1
  | .slice elems spare => uptoBulkAll elems + uptoBulkAll spare + 1
  | .agg parts => uptoBulkAll parts + 1
  | .iface _ d => uptoBulk d + 1
  | .map entries => uptoBulkEntries entries + 1
  | .held _ => 1
def uptoBulkAll {H : Type} : List (DataW H) → Nat
  | [] => 0
  | d :: r => uptoBulk d + uptoBulkAll r
def uptoBulkEntries {H : Type} : List (Lit × DataW H) → Nat
  | [] => 0
  | x :: r => uptoBulkEntry x + uptoBulkEntries r
def uptoBulkEntry {H : Type} : Lit × DataW H → Nat
  | (.string bytes, d) => bytes.length + uptoBulk d + 1
  | (_, d) => uptoBulk d + 1
 end
def uptoSmall : (H : Type) → List (DataW H) → Bool := fun _ ds => decide (uptoBulkAll ds ≤ 1048576)
def OpenSpec.upto (s : _root_.Go.ChangeSpec) : _root_.Go.OpenSpec := { _root_.Go.OpenSpec.ofChange s with cond := some uptoSmall }

/-- 'laws.FnExactOneSlip', WHERE WHAT IT READS IS OF BULK AT MOST 1048576: true; the input reads as it did. -/
def fnExactOneSlipUptoRow : OpenClaim := { program := "ytaahfcdpgcfmhaadoor", sum := "63e5fc7dc271419d0bc924af251606482188d6153ca0a72761fae90723d97882", func := "loop.example/g01326/laws.FnExactOneSlip", spec := "fnExactOneSlip", inPlace := ["internal/reflectlite.TypeOf"], unfollowed := true, recurses := true, named := ["loop.example/g01326/impl.errInvalid", "loop.example/g01326/impl.errState", "loop.example/g01326/impl.errSyntax"], ifaces := true, plainKeys := false, apart := false, laid := [("loop.example/g01326/impl.errInvalid", laid_loop_example_g01326_impl_errInvalid), ("loop.example/g01326/impl.errState", laid_loop_example_g01326_impl_errState), ("loop.example/g01326/impl.errSyntax", laid_loop_example_g01326_impl_errSyntax)], narrowed := true }
def FnExactOneSlipUptoSaid : Prop := fnExactOneSlipUptoRow.holds Tryd.pinned (OpenSpec.upto fnExactOneSlipSpec)

/-- 'laws.FnExactRightPlaces', WHERE WHAT IT READS IS OF BULK AT MOST 1048576: true; the input reads as it did. -/
def fnExactRightPlacesUptoRow : OpenClaim := { program := "ytaahfcdpgcfmhaadoor", sum := "63e5fc7dc271419d0bc924af251606482188d6153ca0a72761fae90723d97882", func := "loop.example/g01326/laws.FnExactRightPlaces", spec := "fnExactRightPlaces", inPlace := ["internal/reflectlite.TypeOf"], unfollowed := true, recurses := true, named := ["loop.example/g01326/impl.errInvalid", "loop.example/g01326/impl.errState", "loop.example/g01326/impl.errSyntax"], ifaces := true, plainKeys := false, apart := false, laid := [("loop.example/g01326/impl.errInvalid", laid_loop_example_g01326_impl_errInvalid), ("loop.example/g01326/impl.errState", laid_loop_example_g01326_impl_errState), ("loop.example/g01326/impl.errSyntax", laid_loop_example_g01326_impl_errSyntax)], narrowed := true }
def FnExactRightPlacesUptoSaid : Prop := fnExactRightPlacesUptoRow.holds Tryd.pinned (OpenSpec.upto fnExactRightPlacesSpec)

/-- 'laws.FnExactBookText', WHERE WHAT IT READS IS OF BULK AT MOST 1048576: true; the input reads as it did. -/
def fnExactBookTextUptoRow : OpenClaim := { program := "ytaahfcdpgcfmhaadoor", sum := "63e5fc7dc271419d0bc924af251606482188d6153ca0a72761fae90723d97882", func := "loop.example/g01326/laws.FnExactBookText", spec := "fnExactBookText", recurses := true, named := ["internal/strconv.uint64pow10", "math/bits.deBruijn32tab", "math/bits.deBruijn64tab"], plainKeys := false, apart := false, laid := [("math/bits.deBruijn32tab", laid_math_bits_deBruijn32tab), ("math/bits.deBruijn64tab", laid_math_bits_deBruijn64tab), ("internal/strconv.uint64pow10", laid_internal_strconv_uint64pow10)], narrowed := true }
def FnExactBookTextUptoSaid : Prop := fnExactBookTextUptoRow.holds Tryd.pinned (OpenSpec.upto fnExactBookTextSpec)

/-- 'laws.FnExactBooksText', WHERE WHAT IT READS IS OF BULK AT MOST 1048576: true; the input reads as it did. -/
def fnExactBooksTextUptoRow : OpenClaim := { program := "ytaahfcdpgcfmhaadoor", sum := "63e5fc7dc271419d0bc924af251606482188d6153ca0a72761fae90723d97882", func := "loop.example/g01326/laws.FnExactBooksText", spec := "fnExactBooksText", recurses := true, named := ["internal/strconv.uint64pow10", "math/bits.deBruijn32tab", "math/bits.deBruijn64tab"], plainKeys := false, apart := false, laid := [("math/bits.deBruijn32tab", laid_math_bits_deBruijn32tab), ("math/bits.deBruijn64tab", laid_math_bits_deBruijn64tab), ("internal/strconv.uint64pow10", laid_internal_strconv_uint64pow10)], narrowed := true }
def FnExactBooksTextUptoSaid : Prop := fnExactBooksTextUptoRow.holds Tryd.pinned (OpenSpec.upto fnExactBooksTextSpec)

/-- 'laws.FnExactCaseText', WHERE WHAT IT READS IS OF BULK AT MOST 1048576: true; the input reads as it did. -/
def fnExactCaseTextUptoRow : OpenClaim := { program := "ytaahfcdpgcfmhaadoor", sum := "63e5fc7dc271419d0bc924af251606482188d6153ca0a72761fae90723d97882", func := "loop.example/g01326/laws.FnExactCaseText", spec := "fnExactCaseText", recurses := true, named := ["internal/strconv.uint64pow10", "math/bits.deBruijn32tab", "math/bits.deBruijn64tab"], plainKeys := false, apart := false, laid := [("math/bits.deBruijn32tab", laid_math_bits_deBruijn32tab), ("math/bits.deBruijn64tab", laid_math_bits_deBruijn64tab), ("internal/strconv.uint64pow10", laid_internal_strconv_uint64pow10)], narrowed := true }
def FnExactCaseTextUptoSaid : Prop := fnExactCaseTextUptoRow.holds Tryd.pinned (OpenSpec.upto fnExactCaseTextSpec)

/-- 'laws.FnExactLayoutText', WHERE WHAT IT READS IS OF BULK AT MOST 1048576: true; the input reads as it did. -/
def fnExactLayoutTextUptoRow : OpenClaim := { program := "ytaahfcdpgcfmhaadoor", sum := "63e5fc7dc271419d0bc924af251606482188d6153ca0a72761fae90723d97882", func := "loop.example/g01326/laws.FnExactLayoutText", spec := "fnExactLayoutText", recurses := true, named := ["internal/strconv.uint64pow10", "math/bits.deBruijn32tab", "math/bits.deBruijn64tab"], plainKeys := false, apart := false, laid := [("math/bits.deBruijn32tab", laid_math_bits_deBruijn32tab), ("math/bits.deBruijn64tab", laid_math_bits_deBruijn64tab), ("internal/strconv.uint64pow10", laid_internal_strconv_uint64pow10)], narrowed := true }
def FnExactLayoutTextUptoSaid : Prop := fnExactLayoutTextUptoRow.holds Tryd.pinned (OpenSpec.upto fnExactLayoutTextSpec)

/-- 'laws.FnExactMovesText', WHERE WHAT IT READS IS OF BULK AT MOST 1048576: true; the input reads as it did. -/
def fnExactMovesTextUptoRow : OpenClaim := { program := "ytaahfcdpgcfmhaadoor", sum := "63e5fc7dc271419d0bc924af251606482188d6153ca0a72761fae90723d97882", func := "loop.example/g01326/laws.FnExactMovesText", spec := "fnExactMovesText", recurses := true, named := ["internal/strconv.uint64pow10", "math/bits.deBruijn32tab", "math/bits.deBruijn64tab"], plainKeys := false, apart := false, laid := [("math/bits.deBruijn32tab", laid_math_bits_deBruijn32tab), ("math/bits.deBruijn64tab", laid_math_bits_deBruijn64tab), ("internal/strconv.uint64pow10", laid_internal_strconv_uint64pow10)], narrowed := true }
def FnExactMovesTextUptoSaid : Prop := fnExactMovesTextUptoRow.holds Tryd.pinned (OpenSpec.upto fnExactMovesTextSpec)

/-- 'laws.FnExactHeightsText', WHERE WHAT IT READS IS OF BULK AT MOST 1048576: true; the input reads as it did. -/
def fnExactHeightsTextUptoRow : OpenClaim := { program := "ytaahfcdpgcfmhaadoor", sum := "63e5fc7dc271419d0bc924af251606482188d6153ca0a72761fae90723d97882", func := "loop.example/g01326/laws.FnExactHeightsText", spec := "fnExactHeightsText", unfollowed := true, recurses := true, named := ["internal/strconv.uint64pow10", "math/bits.deBruijn32tab", "math/bits.deBruijn64tab"], plainKeys := false, apart := false, laid := [("math/bits.deBruijn32tab", laid_math_bits_deBruijn32tab), ("math/bits.deBruijn64tab", laid_math_bits_deBruijn64tab), ("internal/strconv.uint64pow10", laid_internal_strconv_uint64pow10)], narrowed := true }
def FnExactHeightsTextUptoSaid : Prop := fnExactHeightsTextUptoRow.holds Tryd.pinned (OpenSpec.upto fnExactHeightsTextSpec)

/-- 'laws.FnExactRackText', WHERE WHAT IT READS IS OF BULK AT MOST 1048576: true; the input reads as it did. -/
def fnExactRackTextUptoRow : OpenClaim := { program := "ytaahfcdpgcfmhaadoor", sum := "63e5fc7dc271419d0bc924af251606482188d6153ca0a72761fae90723d97882", func := "loop.example/g01326/laws.FnExactRackText", spec := "fnExactRackText", unfollowed := true, recurses := true, named := ["loop.example/g01326/impl.errInvalid", "loop.example/g01326/impl.errState"], ifaces := true, plainKeys := false, apart := false, laid := [("loop.example/g01326/impl.errInvalid", laid_loop_example_g01326_impl_errInvalid), ("loop.example/g01326/impl.errState", laid_loop_example_g01326_impl_errState)], narrowed := true }
def FnExactRackTextUptoSaid : Prop := fnExactRackTextUptoRow.holds Tryd.pinned (OpenSpec.upto fnExactRackTextSpec)

/-- 'laws.FnExactActText', WHERE WHAT IT READS IS OF BULK AT MOST 1048576: true; the input reads as it did. -/
def fnExactActTextUptoRow : OpenClaim := { program := "ytaahfcdpgcfmhaadoor", sum := "63e5fc7dc271419d0bc924af251606482188d6153ca0a72761fae90723d97882", func := "loop.example/g01326/laws.FnExactActText", spec := "fnExactActText", recurses := true, named := ["internal/strconv.uint64pow10", "math/bits.deBruijn32tab", "math/bits.deBruijn64tab"], plainKeys := false, apart := false, laid := [("math/bits.deBruijn32tab", laid_math_bits_deBruijn32tab), ("math/bits.deBruijn64tab", laid_math_bits_deBruijn64tab), ("internal/strconv.uint64pow10", laid_internal_strconv_uint64pow10)], narrowed := true }
def FnExactActTextUptoSaid : Prop := fnExactActTextUptoRow.holds Tryd.pinned (OpenSpec.upto fnExactActTextSpec)

/-- 'laws.FnExactActsText', WHERE WHAT IT READS IS OF BULK AT MOST 1048576: true; the input reads as it did. -/
def fnExactActsTextUptoRow : OpenClaim := { program := "ytaahfcdpgcfmhaadoor", sum := "63e5fc7dc271419d0bc924af251606482188d6153ca0a72761fae90723d97882", func := "loop.example/g01326/laws.FnExactActsText", spec := "fnExactActsText", recurses := true, named := ["internal/strconv.uint64pow10", "math/bits.deBruijn32tab", "math/bits.deBruijn64tab"], plainKeys := false, apart := false, laid := [("math/bits.deBruijn32tab", laid_math_bits_deBruijn32tab), ("math/bits.deBruijn64tab", laid_math_bits_deBruijn64tab), ("internal/strconv.uint64pow10", laid_internal_strconv_uint64pow10)], narrowed := true }
def FnExactActsTextUptoSaid : Prop := fnExactActsTextUptoRow.holds Tryd.pinned (OpenSpec.upto fnExactActsTextSpec)

/-- 'laws.FnExactSplitRack', WHERE WHAT IT READS IS OF BULK AT MOST 1048576: true; the input reads as it did. -/
def fnExactSplitRackUptoRow : OpenClaim := { program := "ytaahfcdpgcfmhaadoor", sum := "63e5fc7dc271419d0bc924af251606482188d6153ca0a72761fae90723d97882", func := "loop.example/g01326/laws.FnExactSplitRack", spec := "fnExactSplitRack", unfollowed := true, recurses := true, named := ["loop.example/g01326/impl.errInvalid", "loop.example/g01326/impl.errState"], ifaces := true, plainKeys := false, apart := false, laid := [("loop.example/g01326/impl.errInvalid", laid_loop_example_g01326_impl_errInvalid), ("loop.example/g01326/impl.errState", laid_loop_example_g01326_impl_errState)], narrowed := true }
def FnExactSplitRackUptoSaid : Prop := fnExactSplitRackUptoRow.holds Tryd.pinned (OpenSpec.upto fnExactSplitRackSpec)

end Rows
end Go.Proofs.YtaahfcdpgcfmhaaDoor
