/- The cells of a list of books, one behind the other, as an array has them. No condition. -/
import Derived.Shelf.GgSortFunc.RowK
import Derived.Test.YtjeflpohokjjkaaToBookS
namespace Go.Proofs.Ytjeflpohokjjkaa
set_option linter.unusedSimpArgs false
set_option linter.unusedVariables false
set_option maxRecDepth 100000
open Go.RowKit Go.Sort

theorem cells_len (b : Bk) : b.cells.length = 8 := rfl
theorem cells_one (b : Bk) : ∀ v ∈ b.cells, v.oneCell' = true := by
  intro v hv
  simp [Bk.cells] at hv
  rcases hv with rfl | rfl | rfl | rfl | rfl | rfl | rfl | rfl <;> rfl
def flatB (xs : List Bk) : List Value := (flatK Bk.cells 8 xs.toArray).toList
theorem flatB_length (xs : List Bk) : (flatB xs).length = xs.length * 8 := by simp [flatB]
theorem flatB_get {xs : List Bk} {j : Nat} {u : Value} (h : (flatB xs)[j]? = some u) : ∃ (hi : j / 8 < xs.length), (xs[j / 8].cells)[j % 8]? = some u := by
  have hj : j < xs.length * 8 := by rw [← flatB_length]; exact (List.getElem?_eq_some_iff.1 h).1
  have hi : j / 8 < xs.length := by omega
  refine ⟨hi, ?_⟩
  unfold flatB flatK at h
  simp [hj] at h
  have e : xs.toArray[j / 8]! = xs[j / 8] := by simp [hi]
  have e2 : xs[j / 8]! = xs[j / 8] := by simp [hi]
  have hm : j % 8 < (xs[j / 8].cells).length := by rw [cells_len]; omega
  rw [List.getElem?_eq_getElem hm]
  first
    | (obtain ⟨_, h⟩ := h; rw [← h]; simp [hi, hm])
    | (rw [← h]; simp [hi, hm])
theorem flatB_one (xs : List Bk) : ∀ u ∈ flatB xs, u.oneCell' = true := by
  intro u hu
  obtain ⟨j, hj, e⟩ := List.getElem_of_mem hu
  obtain ⟨hi, h⟩ := flatB_get ((List.getElem?_eq_getElem hj).trans (congrArg some e))
  exact cells_one _ u (List.mem_of_getElem? h)
theorem flat_cells {w : World} {b o : Nat} {xs : List Bk} (h : BooksAt w b o xs) : ∀ j u, (flatB xs)[j]? = some u → w.cell? ⟨b, o + j, none⟩ = some u := by
  intro j u hu
  obtain ⟨hi, h1⟩ := flatB_get hu
  have := h (j / 8) hi (j % 8) u h1
  rwa [Nat.add_assoc, show j / 8 * 8 + j % 8 = j by omega] at this
end Go.Proofs.Ytjeflpohokjjkaa
