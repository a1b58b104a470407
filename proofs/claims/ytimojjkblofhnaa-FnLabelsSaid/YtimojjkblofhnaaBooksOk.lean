/- Which lists are valid: the model's functions and the program's, contracts. Condition: the list is no longer than a slice can be. -/
import Derived.Test.YtimojjkblofhnaaValid2
import Derived.Test.YtimojjkblofhnaaRow
namespace Go.Proofs.Ytimojjkblofhnaa
set_option linter.unusedSimpArgs false
set_option linter.unusedVariables false
set_option maxRecDepth 100000
open Go.RowKit

def okB (xs : List Bk) : Bool := xs.all bookB && decide (xs.length ≤ 60)

theorem okB_bad {xs : List Bk} {k : Nat} (hk : k < xs.length) (h : bookB xs[k] = false) : okB xs = false := by
  unfold okB
  have : xs.all bookB = false := by
    rw [List.all_eq_false]
    exact ⟨xs[k], List.getElem_mem hk, by simp [h]⟩
  rw [this]
  rfl

theorem okB_all {xs : List Bk} (h : ∀ (i : Nat) (hi : i < xs.length), bookB xs[i] = true) : okB xs = decide (xs.length ≤ 60) := by
  unfold okB
  have : xs.all bookB = true := by
    rw [List.all_eq_true]
    intro b hb
    obtain ⟨i, hi, rfl⟩ := List.getElem_of_mem hb
    exact h i hi
  rw [this]
  rfl

theorem okB_long {xs : List Bk} (h : ¬ xs.length ≤ 60) : okB xs = false := by
  unfold okB
  simp [h]

def AllTo (xs : List Bk) (k : Nat) : Prop := ∀ (i : Nat) (hi : i < xs.length), i < k → bookB xs[i] = true

theorem AllTo.succ {xs : List Bk} {k : Nat} (h : AllTo xs k) (hk : k < xs.length) (hb : bookB xs[k] = true) : AllTo xs (k + 1) := by
  intro i hi hik
  by_cases e : i = k
  · subst e; exact hb
  · exact h i hi (by omega)

end Go.Proofs.Ytimojjkblofhnaa
