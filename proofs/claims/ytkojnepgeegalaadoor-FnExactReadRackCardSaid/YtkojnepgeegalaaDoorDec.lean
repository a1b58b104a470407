/- The model's numerals: spec.Decimal at one digit: contract; one byte as a string, a tenth of a number. Condition: a natural number below 10 (2^62). -/
import Derived.Test.YtkojnepgeegalaaDoorBk
import Derived.Laws.IdiomStrings
import Derived.Deep.RegionHeld3
import Derived.Lib.ItoaNum
namespace Go.Proofs.YtkojnepgeegalaaDoor
set_option linter.unusedSimpArgs false
set_option linter.unusedVariables false
set_option maxRecDepth 100000
open Go.RowKit

def digB (n : Nat) : UInt8 := UInt8.ofNat (48 + n % 10)
theorem quoTen (n : Nat) (hn : n < 4611686018427387904) (W : World) : (binOp .quo 2 (.int .i64 (n : Int)) (.int .i64 10)).run Tryd.prog W = .ok (.int .i64 ((n / 10 : Nat) : Int)) W := by
  go_simp
  exact IntWalk.i64_in _ (by omega)
end Go.Proofs.YtkojnepgeegalaaDoor
