/- A book put into a row of books. No condition. -/
import Derived.Test.YtecpddkbbfpeeaaFlB
namespace Go.Proofs.Ytecpddkbbfpeeaa
set_option linter.unusedSimpArgs false
set_option linter.unusedVariables false
set_option maxRecDepth 100000
open Go.RowKit

theorem RowK.putS {w : World} {g k n : Nat} {ys : List Bk} (h : RowK w g ys k n) (i : Nat) (hi : i < ys.length) (hn : i < n) (b : Bk) : RowK (set8 w g (i * 8) b) g (ys.set i b) k n := by
  obtain ⟨cs, h1, h2, h3⟩ := h
  refine ⟨_, set8_heap h1, by simpa using h2, fun i' hi' hik j v hv => ?_⟩
  have hl : i' < ys.length := by simpa using hi'
  have hj : j < 8 := by have := (List.getElem?_eq_some_iff.1 hv).1; rwa [cells_len] at this
  by_cases e : i' = i
  · subst e
    rw [List.getElem_set_self] at hv
    have : j = 0 ∨ j = 1 ∨ j = 2 ∨ j = 3 ∨ j = 4 ∨ j = 5 ∨ j = 6 ∨ j = 7 := by omega
    rcases this with rfl | rfl | rfl | rfl | rfl | rfl | rfl | rfl
    all_goals
      simp only [Bk.cells, List.getElem?_cons_zero, List.getElem?_cons_succ, Option.some.injEq] at hv
      subst hv
      simp only [Array.getElem?_setIfInBounds, Array.size_setIfInBounds]
      simp
      omega
  · rw [List.getElem_set_ne (by omega)] at hv
    have h4 := h3 i' hl hik j v hv
    simp only [Array.getElem?_setIfInBounds]
    iterate 8 (rw [if_neg (by omega)])
    exact h4

end Go.Proofs.Ytecpddkbbfpeeaa
