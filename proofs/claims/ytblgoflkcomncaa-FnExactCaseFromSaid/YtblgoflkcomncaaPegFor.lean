/- The least height that is high enough, by the model and by the program: contracts. Condition: numbers within their kinds. -/
import Derived.Test.YtblgoflkcomncaaFrom
namespace Go.Proofs.Ytblgoflkcomncaa
set_option linter.unusedSimpArgs false
set_option linter.unusedVariables false
set_option maxRecDepth 100000
open Go.RowKit

def pfV (p : Pg) (h : Int) : Int := if pegsB p && inB h 0 1000 then (fromV p h).getD 0 else 0
def pfC (p : Pg) (h : Int) : Int := if pegsB p = false then 1 else if inB h 0 1000 = false then 2 else if fromV p h = none then 6 else 0
theorem pf_cases (p : Pg) (h : Int) : (pegsB p = false ∧ pfV p h = 0 ∧ pfC p h = 1) ∨ (pegsB p = true ∧ inB h 0 1000 = false ∧ pfV p h = 0 ∧ pfC p h = 2) ∨
    (pegsB p = true ∧ inB h 0 1000 = true ∧ 1000 < pegV p h ∧ fromV p h = none ∧ pfV p h = 0 ∧ pfC p h = 6) ∨ (pegsB p = true ∧ inB h 0 1000 = true ∧ pegV p h ≤ 1000 ∧ fromV p h = some (pegV p h) ∧ pfV p h = pegV p h ∧ pfC p h = 0) := by
  cases h1 : pegsB p
  · exact .inl ⟨rfl, by simp [pfV, h1], by simp [pfC, h1]⟩
  · cases h2 : inB h 0 1000
    · exact .inr (.inl ⟨rfl, rfl, by simp [pfV, h2], by simp [pfC, h1, h2]⟩)
    · have hh : h ≤ 1000 := by unfold inB at h2; simp at h2; omega
      have e := fromV_eq h1 hh
      by_cases h3 : pegV p h ≤ 1000
      · rw [if_pos h3] at e
        exact .inr (.inr (.inr ⟨rfl, rfl, h3, e, by simp [pfV, h1, h2, e], by simp [pfC, h1, h2, e]⟩))
      · rw [if_neg h3] at e
        exact .inr (.inr (.inl ⟨rfl, rfl, by omega, e, by simp [pfV, h1, h2, e], by simp [pfC, h1, h2, e]⟩))

theorem w16_any (n low high : Int) (w : World) : Calls Try.prog 74 #[.int .i64 n, .int .i64 low, .int .i64 high] w fun e w' => e = .returned (.bool (inB n low high)) ∧ w = w' := by
  by_cases h1 : low ≤ n
  · by_cases h2 : n ≤ high
    · go_enter Try.func74, Try.ntmps74
      go_wp2
      go_ret
      exact ⟨by simp [inB, h1, h2], rfl⟩
    · go_enter Try.func74, Try.ntmps74
      go_wp2
      go_ret
      exact ⟨by simp [inB, h1, h2], rfl⟩
  · have h1' : n < low := by omega
    go_enter Try.func74, Try.ntmps74
    go_wp2
    go_ret
    exact ⟨by simp [inB, show ¬ low ≤ n from by omega], rfl⟩

end Go.Proofs.Ytblgoflkcomncaa
