/- How long the joined list is. -/
import Derived.Test.YtgmipobohnagnaaDoorRkJn
namespace Go.Proofs.YtgmipobohnagnaaDoor
set_option linter.unusedSimpArgs false
set_option linter.unusedVariables false
set_option maxRecDepth 100000
open Go.RowKit
theorem jnL_120 (r s : Rk) : (jnL r s).length ≤ 120 := by
  rcases jn_cases r s with ⟨_, _, h, _⟩ | ⟨_, _, _, h, _⟩ | ⟨_, _, _, _, h, _⟩ | ⟨_, _, _, _, _, h, _⟩ | ⟨h1, h2, _, _, _, h, _⟩
  · rw [h]; simp
  · rw [h]; simp
  · rw [h]; simp
  · rw [h]; simp
  · have := rkB_len h1
    have := rkB_len h2
    rw [h]
    simp [shL]
    omega
end Go.Proofs.YtgmipobohnagnaaDoor
