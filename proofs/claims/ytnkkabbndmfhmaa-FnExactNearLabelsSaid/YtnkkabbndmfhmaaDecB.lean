/- The model's numerals: spec.Decimal at every natural number below 2^62: a contract. Condition: that. -/
import Derived.Test.YtnkkabbndmfhmaaDec
import Derived.Deep.RegionLaw
namespace Go.Proofs.Ytnkkabbndmfhmaa
set_option linter.unusedSimpArgs false
set_option linter.unusedVariables false
set_option maxRecDepth 100000
open Go.RowKit

theorem bcellD {W w1 : World} (hb : Below W.heap.size W w1) : ∀ b o, b < W.heap.size → w1.cell? ⟨b, o, none⟩ = W.cell? ⟨b, o, none⟩ := fun b o h => hb.cell (p := ⟨b, o, none⟩) h

theorem decDigits_step {n : Nat} (h : 10 ≤ n) : Lib.decDigits n = Lib.decDigits (n / 10) ++ [digB n] := by
  rw [Lib.decDigits, dif_neg (by omega)]
  rfl
end Go.Proofs.Ytnkkabbndmfhmaa
