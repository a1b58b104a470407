/- The text of a book, by the model: a contract. Condition: no number of the book is below nought. -/
import Derived.Test.YtkojnepgeegalaaDoorTxt
import Derived.Test.YtkojnepgeegalaaDoorValid
import Derived.Test.YtkojnepgeegalaaDoorQuiet
namespace Go.Proofs.YtkojnepgeegalaaDoor
set_option linter.unusedSimpArgs false
set_option linter.unusedVariables false
set_option maxRecDepth 100000
open Go.RowKit

/-- What follows needs of a book alone. -/
structure Bk.Pos (b : Bk) : Prop where
  c : 0 ≤ b.c ∧ b.c ≤ 32767
  v : 0 ≤ b.v ∧ b.v ≤ 32767
  wi : 0 ≤ b.wi ∧ b.wi ≤ 32767
  hi : 0 ≤ b.hi ∧ b.hi ≤ 32767
  we : 0 ≤ b.we ∧ b.we ≤ 32767
  m0 : 0 ≤ b.m0 ∧ b.m0 ≤ 255
  m1 : 0 ≤ b.m1 ∧ b.m1 ≤ 255
  m2 : 0 ≤ b.m2 ∧ b.m2 ≤ 255
def mrkT (b : Bk) : List UInt8 := [UInt8.ofNat b.m0.toNat, UInt8.ofNat b.m1.toNat, UInt8.ofNat b.m2.toNat]
/-- The text of a book. -/
def bookT (b : Bk) : List UInt8 := dec b.c ++ ([32] ++ (mrkT b ++ ([32] ++ (dec b.v ++ ([32] ++ (dec b.wi ++ ([120] ++ (dec b.hi ++ ([32] ++ dec b.we)))))))))
end Go.Proofs.YtkojnepgeegalaaDoor
