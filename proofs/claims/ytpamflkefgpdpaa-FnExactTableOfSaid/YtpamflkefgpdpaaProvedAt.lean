/- Whether a table is a proof, by the program: contracts. Condition: a valid case and list, a table no longer than slices can be. -/
import Derived.Test.YtpamflkefgpdpaaIsTable
namespace Go.Proofs.Ytpamflkefgpdpaa
set_option linter.unusedSimpArgs false
set_option linter.unusedVariables false
set_option maxRecDepth 100000
open Go.RowKit

noncomputable def cellB (c : Cs) (xs : List Bk) (t : List (List Int)) (s i : Nat) : Bool := @decide (StepsTo c xs t s i (cntR c s xs i)) (Classical.propDecidable _)
theorem cellB_yes {c : Cs} {xs : List Bk} {t : List (List Int)} {s i : Nat} (h : StepsTo c xs t s i (cntR c s xs i)) : cellB c xs t s i = true := by unfold cellB; exact @decide_eq_true _ (Classical.propDecidable _) h
theorem cellB_no {c : Cs} {xs : List Bk} {t : List (List Int)} {s i : Nat} (h : ¬ StepsTo c xs t s i (cntR c s xs i)) : cellB c xs t s i = false := by unfold cellB; exact @decide_eq_false _ (Classical.propDecidable _) h
theorem cellB_out {c : Cs} {xs : List Bk} {t : List (List Int)} {s i : Nat} (h : cellB c xs t s i = true) : StepsTo c xs t s i (cntR c s xs i) := by unfold cellB at h; exact @of_decide_eq_true _ (Classical.propDecidable _) h
theorem cellB_not {c : Cs} {xs : List Bk} {t : List (List Int)} {s i : Nat} (h : cellB c xs t s i = false) : ¬ StepsTo c xs t s i (cntR c s xs i) := by unfold cellB at h; exact @of_decide_eq_false _ (Classical.propDecidable _) h
theorem cost_price {c : Cs} {s : Nat} {ps : List Bk} (h : fitsB c s ps = true) : measV 2 ps.length (freeB c ps) = priceS c s ps false := by
  have hf : freeS c s ps = freeB c ps := by unfold freeS; rw [h]; rfl
  have hn := freeS_nonneg c s ps
  rw [h, hf] at hn
  simp only [decide_eq_true_eq] at hn
  have hnn : ¬ freeB c ps < 0 := by omega
  unfold priceS measV useI
  rw [hf]
  by_cases h0 : ps.length = 0
  · rw [if_neg hnn, if_pos h0, if_pos h0]; simp
  · rw [if_neg hnn, if_neg h0, if_neg h0]; simp
/-- Each row that the program lists fits. -/
theorem fits_within {c : Cs} {s : Nat} {xs : List Bk} {i : Nat} (hc : caseB c = true) (hi : i ≤ xs.length) : ∀ d, d < cntR c s xs i → fitsB c s (part xs i (i + d)) = true
  | 0, _ => by rw [Nat.add_zero, part_nil]; exact fits_nil s hc
  | d + 1, h => by
    have key : ∀ f k, i ≤ k → fitsB c s (part xs i k) = true → ∀ k', k ≤ k' → k' ≤ reachF c s xs i f k → fitsB c s (part xs i k') = true := by
      intro f
      induction f with
      | zero => intro k _ hk k' h1 h2; rw [reachF] at h2; obtain rfl : k' = k := by omega
                exact hk
      | succ f ih =>
        intro k hik hk k' h1 h2
        rw [reachF] at h2
        by_cases hf : fitsB c s (part xs i (k + 1)) = true
        · rw [if_pos hf] at h2
          by_cases e : k' = k
          · subst e; exact hk
          · exact ih (k + 1) (by omega) hf k' (by omega) h2
        · rw [if_neg hf] at h2
          obtain rfl : k' = k := by omega
          exact hk
    refine key (xs.length - i) i (Nat.le_refl _) (by rw [part_nil]; exact fits_nil s hc) _ (by omega) ?_
    unfold cntR reach at h
    omega


end Go.Proofs.Ytpamflkefgpdpaa
