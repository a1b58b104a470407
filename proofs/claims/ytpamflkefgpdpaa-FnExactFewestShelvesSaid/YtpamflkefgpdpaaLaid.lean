/- Layouts, by the model and by the program: contracts of what is asked of them, of CheckLayout and of FirstBadShelf. Condition: lists no longer than the law tests. -/
import Derived.Test.YtpamflkefgpdpaaRowsOf
namespace Go.Proofs.Ytpamflkefgpdpaa
set_option linter.unusedSimpArgs false
set_option linter.unusedVariables false
set_option maxRecDepth 100000
open Go.RowKit

theorem goodN_le (c : Cs) (xs : List Bk) (es : List Int) : goodN c xs es ≤ c.hs.length := by
  unfold goodN
  have := (List.takeWhile_sublist (l := List.range c.hs.length) (okAt c xs es)).length_le
  simpa using this
theorem badV_neg (c : Cs) (xs : List Bk) (es : List Int) : (layB c xs es = true ∧ badV c xs es = -1) ∨ (layB c xs es = false ∧ badV c xs es = goodN c xs es) := by
  have h := goodN_le c xs es
  unfold badV
  by_cases h1 : goodN c xs es < c.hs.length
  · right
    rw [if_pos h1]
    exact ⟨layB_bad rfl h1, rfl⟩
  · rw [if_neg h1]
    cases h2 : layB c xs es
    · right
      exact ⟨rfl, by rw [if_neg (by simp)]; omega⟩
    · left
      exact ⟨rfl, by simp⟩

def layCode (c : Cs) (xs : List Bk) (es : List Int) : Int := if askB c xs then (if layB c xs es then 0 else 8) else 1
/-- How many rows layoutOf gives. -/
def layN (c : Cs) (xs : List Bk) (es : List Int) : Nat := if layCode c xs es = 0 then c.hs.length else 0
def clVal (c : Cs) (xs : List Bk) (es : List Int) : Bool := askB c xs && layB c xs es
def fbVal (c : Cs) (xs : List Bk) (es : List Int) : Int := if askB c xs then (if layB c xs es then 0 else (goodN c xs es : Int)) else 0
def fbCode (c : Cs) (xs : List Bk) (es : List Int) : Int := if askB c xs then (if layB c xs es then 6 else 0) else 1

theorem lay_cases (c : Cs) (xs : List Bk) (es : List Int) : (askB c xs = false ∧ askCode c xs = 1 ∧ layCode c xs es = 1 ∧ clVal c xs es = false ∧ fbVal c xs es = 0 ∧ fbCode c xs es = 1) ∨
    (askB c xs = true ∧ askCode c xs = 0 ∧ layB c xs es = false ∧ badV c xs es = goodN c xs es ∧ layCode c xs es = 8 ∧ clVal c xs es = false ∧ fbVal c xs es = goodN c xs es ∧ fbCode c xs es = 0) ∨
    (askB c xs = true ∧ askCode c xs = 0 ∧ layB c xs es = true ∧ badV c xs es = -1 ∧ layCode c xs es = 0 ∧ clVal c xs es = true ∧ fbVal c xs es = 0 ∧ fbCode c xs es = 6) := by
  unfold askCode layCode clVal fbVal fbCode
  rcases badV_neg c xs es with ⟨h1, h2⟩ | ⟨h1, h2⟩ <;> rw [h1, h2] <;> cases askB c xs <;> simp
theorem askB_both {c : Cs} {xs : List Bk} (h : askB c xs = true) : caseB c = true ∧ okB xs = true := by unfold askB at h; simpa using h

end Go.Proofs.Ytpamflkefgpdpaa
