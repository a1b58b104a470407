/- FitsOn, by the model and by the program: contracts. Condition: lists no longer than the law tests, numbers within their kinds. -/
import Derived.Test.YtpamflkefgpdpaaRowOn
namespace Go.Proofs.Ytpamflkefgpdpaa
set_option linter.unusedSimpArgs false
set_option linter.unusedVariables false
set_option maxRecDepth 100000
open Go.RowKit

def foVal (c : Cs) (xs : List Bk) (a : Int) : Bool := askB c xs && (inB a 0 ((c.hs.length : Int) - 1) && fitsB c a.toNat xs)
def foErr (c : Cs) (xs : List Bk) (a : Int) : Int := if askB c xs then (if inB a 0 ((c.hs.length : Int) - 1) then 0 else 2) else 1

theorem shelf_cases (c : Cs) (a : Int) : (inB a 0 ((c.hs.length : Int) - 1) = false) ∨ (∃ s : Nat, a = s ∧ s < c.hs.length ∧ inB a 0 ((c.hs.length : Int) - 1) = true) := by
  by_cases h : 0 ≤ a ∧ a ≤ (c.hs.length : Int) - 1
  · exact .inr ⟨a.toNat, by omega, by omega, by unfold inB; simpa using h⟩
  · exact .inl (by unfold inB; simpa using h)
theorem caseB_lens {c : Cs} (h : caseB c = true) : 1 ≤ c.hs.length ∧ c.hs.length ≤ 12 := by
  unfold caseB inB at h
  simp only [Bool.and_eq_true, decide_eq_true_eq] at h
  omega

end Go.Proofs.Ytpamflkefgpdpaa
