/- The first bad shelf, by the model: contracts. Condition: a valid case and list; numbers no longer than a slice can be. -/
import Derived.Test.YtpamflkefgpdpaaFitsOn
import Derived.Test.YtpamflkefgpdpaaReach
namespace Go.Proofs.Ytpamflkefgpdpaa
set_option linter.unusedSimpArgs false
set_option linter.unusedVariables false
set_option maxRecDepth 100000
open Go.RowKit

def badV (c : Cs) (xs : List Bk) (es : List Int) : Int := if goodN c xs es < c.hs.length then (goodN c xs es : Int) else if layB c xs es then -1 else (c.hs.length : Int)

theorem getD_ints {es : List Int} {j : Nat} (h : j < es.length) : es.getD j 0 = es[j] := by simp [List.getD, List.getElem?_eq_getElem h]
theorem okAt_short {c : Cs} {xs : List Bk} {es : List Int} {j : Nat} (h : es.length ≤ j) : okAt c xs es j = false := by
  unfold okAt
  rw [decide_eq_false (by omega)]
  rfl
theorem okAt_less {c : Cs} {xs : List Bk} {es : List Int} {j : Nat} (hj : j < es.length) (h : es[j] < fromE es j) : okAt c xs es j = false := by
  unfold okAt
  rw [getD_ints hj, decide_eq_false (show ¬ fromE es j ≤ es[j] by omega)]
  simp
theorem okAt_more {c : Cs} {xs : List Bk} {es : List Int} {j : Nat} (hj : j < es.length) (h : (xs.length : Int) < es[j]) : okAt c xs es j = false := by
  unfold okAt
  rw [getD_ints hj, decide_eq_false (show ¬ es[j] ≤ xs.length by omega)]
  simp
theorem okAt_eq {c : Cs} {xs : List Bk} {es : List Int} {j i k : Nat} (hj : j < es.length) (hi : fromE es j = i) (hk : es[j] = k) (hik : i ≤ k) (hn : k ≤ xs.length) : okAt c xs es j = fitsB c j (part xs i k) := by
  unfold okAt
  rw [getD_ints hj, hi, hk, decide_eq_true hj, decide_eq_true (by omega), decide_eq_true (by omega)]
  simp

end Go.Proofs.Ytpamflkefgpdpaa
