/- The model's greater one of two numbers: a contract. No condition. -/
import Derived.Test.YtecpddkbbfpeeaaOpen
namespace Go.Proofs.Ytecpddkbbfpeeaa
set_option linter.unusedSimpArgs false
set_option linter.unusedVariables false
set_option maxRecDepth 100000
open Go.RowKit

set_option maxHeartbeats 1000000 in
theorem l00Max_any (a b m : Int) (hm : (if a < b then b else a) = m) (w : World) : Calls Try.prog 49 #[.int .i64 a, .int .i64 b] w fun e w' => e = .returned (.int .i64 m) ∧ w = w' := by
  by_cases h : a > b
  · rw [if_neg (by omega)] at hm
    subst hm
    go_enter Try.func49, Try.ntmps49
    go_wp2
    go_ret
    exact ⟨rfl, rfl⟩
  · have hm : b = m := by
      by_cases h2 : a < b
      · rw [if_pos h2] at hm; exact hm
      · rw [if_neg h2] at hm; omega
    subst hm
    go_enter Try.func49, Try.ntmps49
    go_wp2
    go_ret
    exact ⟨rfl, rfl⟩
end Go.Proofs.Ytecpddkbbfpeeaa
