/- What the functions ask of a sorted list, by the model and by the program: contracts. Condition: the three error variables hold three different errors of errors.New's make; at most 1048576 books. -/
import Derived.Test.YteeblpdjpaellaaDoorFirstW
import Derived.Test.YteeblpdjpaellaaDoorSorted2
namespace Go.Proofs.YteeblpdjpaellaaDoor
set_option linter.unusedSimpArgs false
set_option linter.unusedVariables false
set_option maxRecDepth 100000
open Go.RowKit

/-- The error that a list is answered with. -/
def errV (xs : List Bk) (s i : Addr) : Value := if askS xs = 1 then .iface 158 (.pointer (some i)) else if askS xs = 4 then .iface 158 (.pointer (some s)) else .nilIface

theorem checkSorted_any (v : Value) (xs : List Bk) (wf : ∀ b ∈ xs, b.Wf) (w : World) (g : Nat) (s i y : Addr) (he : Errs w s i y) (hv : w.cell? ⟨g, 0, none⟩ = some v) (hg : g < w.heap.size) (hs : SliceOf w v xs) (hn : xs.length ≤ 1048576) (hm : xs.length ≤ maxLen) :
    Calls Tryd.prog 45 #[.slice (some ⟨g, 0, none⟩) 1 1] w fun e w' => e = .returned (errV xs s i) ∧ Below w.heap.size w w' := by
  cases hk : okB xs
  · rw [show errV xs s i = .iface 158 (.pointer (some i)) by unfold errV askS; rw [hk]; rfl]
    exact checkSorted_invalid v xs w g s i y he hv hg hs hm hk
  · have C := checkSorted_valid v xs wf w g s i y he hv hg hs hn hm hk
    have E : errV xs s i = if (runs xs).length < 2 then .nilIface else .iface 158 (.pointer (some s)) := by
      unfold errV askS
      rw [hk, if_pos rfl]
      by_cases hl : (runs xs).length < 2
      · rw [if_pos hl]
        rcases none_or xs xs.length with hno | ⟨k, k1, k2, k3, k4⟩
        · rw [firstOut_none hno]; rfl
        · obtain ⟨r, hr⟩ := runs_out k1 k2 k3 k4
          rw [hr] at hl; simp at hl; omega
      · rw [if_neg hl]
        rcases none_or xs xs.length with hno | ⟨k, k1, k2, k3, k4⟩
        · exact absurd (runs_none hno) hl
        · rw [firstOut_at k3 k1 k2 k4, if_neg (by omega)]; rfl
    rw [E]
    exact C

end Go.Proofs.YteeblpdjpaellaaDoor
