/- Tables of numbers, equality of them: contracts. No condition beyond lengths. -/
import Derived.Test.YtkclobdealnkhaaDoorNums
import Derived.BigQuiet
namespace Go.Proofs.YtkclobdealnkhaaDoor
set_option linter.unusedSimpArgs false
set_option linter.unusedVariables false
set_option maxRecDepth 100000
open Go.RowKit

def TabOf (w : World) (v : Value) (t : List (List Int)) : Prop :=
  ∃ A c, v = .slice A t.length c ∧ (0 < t.length → ∃ g o, A = some ⟨g, o, none⟩ ∧ g < w.heap.size ∧ ∀ (i : Nat) (hi : i < t.length), ∃ u, w.cell? ⟨g, o + i, none⟩ = some u ∧ IntsOf .i64 w u t[i])
theorem TabOf.below {w w' : World} {v : Value} {t : List (List Int)} (h : TabOf w v t) (hb : Below w.heap.size w w') : TabOf w' v t := by
  obtain ⟨A, c, rfl, h⟩ := h
  refine ⟨A, c, rfl, fun h0 => ?_⟩
  obtain ⟨g, o, rfl, hg, hh⟩ := h h0
  refine ⟨g, o, rfl, Nat.lt_of_lt_of_le hg hb.size, fun i hi => ?_⟩
  obtain ⟨u, h1, h2⟩ := hh i hi
  exact ⟨u, (hb.cell (p := ⟨g, o + i, none⟩) hg).trans h1, h2.below hb⟩

end Go.Proofs.YtkclobdealnkhaaDoor
