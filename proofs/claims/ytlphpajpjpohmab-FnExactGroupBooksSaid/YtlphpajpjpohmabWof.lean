/- The waste of books on heights, by the model: the contract of WasteOf. Condition: numbers within their kinds, slices no longer than can be. -/
import Derived.Test.YtlphpajpjpohmabWst
namespace Go.Proofs.Ytlphpajpjpohmab
set_option linter.unusedSimpArgs false
set_option linter.unusedVariables false
set_option maxRecDepth 100000
open Go.RowKit

def woV (p : Pg) (hs : List Int) (xs : List Bk) : Int := if gaB p hs xs && allHB hs xs then wsTo hs xs xs.length else 0
theorem gc_cases (p : Pg) (hs : List Int) (xs : List Bk) : (gaB p hs xs = false ∧ gcC p hs xs = 1 ∧ woV p hs xs = 0) ∨ (gaB p hs xs = true ∧ allHB hs xs = false ∧ gcC p hs xs = 6 ∧ woV p hs xs = 0) ∨ (gaB p hs xs = true ∧ allHB hs xs = true ∧ gcC p hs xs = 0 ∧ woV p hs xs = wsTo hs xs xs.length) := by
  unfold gcC woV
  cases h1 : gaB p hs xs
  · exact .inl ⟨rfl, rfl, rfl⟩
  · cases h2 : allHB hs xs
    · exact .inr (.inl ⟨rfl, rfl, rfl, rfl⟩)
    · exact .inr (.inr ⟨rfl, rfl, rfl, rfl⟩)
theorem gaB_true {p : Pg} {hs : List Int} {xs : List Bk} (h : gaB p hs xs = true) : hsB p hs = true ∧ okB xs = true := by
  unfold gaB at h
  simpa only [Bool.and_eq_true] using h

end Go.Proofs.Ytlphpajpjpohmab
