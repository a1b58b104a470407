/- The sum of a layout's prices, by the model and by the program: contracts; CostOf and UsedShelves. Condition: lists no longer than the law tests. -/
import Derived.Test.YtpamflkefgpdpaaSums
namespace Go.Proofs.Ytpamflkefgpdpaa
set_option linter.unusedSimpArgs false
set_option linter.unusedVariables false
set_option maxRecDepth 100000
open Go.RowKit

theorem lay_at {c : Cs} {xs : List Bk} {es : List Int} (h : layB c xs es = true) {j : Nat} (hj : j < es.length) :
    j < c.hs.length ∧ ∃ i k : Nat, fromE es j = i ∧ es[j] = k ∧ i ≤ k ∧ k ≤ xs.length ∧ fitsB c j (part xs i k) = true := by
  unfold layB at h
  simp only [Bool.and_eq_true, decide_eq_true_eq] at h
  obtain ⟨h1, h2, h3⟩ := h
  have hj' : j < c.hs.length := by omega
  refine ⟨hj', ?_⟩
  have hok : OkTo c xs es (j + 1) := by
    intro s hs
    have hp : ∀ (l : List Nat) (p : Nat → Bool), (l.takeWhile p).length = l.length → ∀ x ∈ l, p x = true := by
      intro l p
      induction l with
      | nil => intro _ x hx; cases hx
      | cons a l ih =>
        intro hl x hx
        rw [List.takeWhile_cons] at hl
        cases hpa : p a
        · rw [hpa] at hl; simp at hl
        · rw [hpa] at hl
          simp at hl
          rcases List.mem_cons.1 hx with rfl | hx
          · exact hpa
          · exact ih hl x hx
    exact hp (List.range c.hs.length) (okAt c xs es) (by unfold goodN at h1; rw [h1]; simp) s (by simp; omega)
  have f1 := OkTo.from_in (k := j) (fun s hs => hok s (by omega))
  have f2 := OkTo.from_in hok
  rw [fromE_succ, getD_ints hj] at f2
  have ho := hok j (by omega)
  refine ⟨(fromE es j).toNat, es[j].toNat, by omega, by omega, ?_, by omega, ?_⟩
  · unfold okAt at ho
    rw [getD_ints hj] at ho
    simp only [Bool.and_eq_true, decide_eq_true_eq] at ho
    omega
  · unfold okAt at ho
    rw [getD_ints hj] at ho
    simp only [Bool.and_eq_true, decide_eq_true_eq] at ho
    exact ho.2.2.2
theorem lay_len {c : Cs} {xs : List Bk} {es : List Int} (h : layB c xs es = true) : es.length = c.hs.length := by
  unfold layB at h
  simp only [Bool.and_eq_true, decide_eq_true_eq] at h
  exact h.2.2
theorem priceAt_eq {c : Cs} {xs : List Bk} {es : List Int} {single : Bool} {j i k : Nat} (hj : j < es.length) (hi : fromE es j = i) (hk : es[j] = k) : priceAt c xs es single j = priceS c j (part xs i k) single := by
  unfold priceAt
  rw [getD_ints hj, hi, hk]
  simp

end Go.Proofs.Ytpamflkefgpdpaa
