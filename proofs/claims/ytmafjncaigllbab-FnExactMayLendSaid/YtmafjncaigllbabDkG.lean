/- Places in queues, and how long to wait, by the program; how long to wait by the model: contracts. Condition: no longer than slices can be, numbers within their kinds. -/
import Derived.Test.YtmafjncaigllbabDkF
namespace Go.Proofs.Ytmafjncaigllbab
set_option linter.unusedSimpArgs false
set_option linter.unusedVariables false
set_option maxRecDepth 100000
open Go.RowKit

theorem OwnQ.ints {w : World} {base : Nat} {u : Value} {q : List Int} (h : OwnQ w base u q) : IntsOf .i64 w u q := ownInts h
theorem askP_q {d : Dk} (wf : ∀ c ∈ d.cs, c.q.length ≤ maxLen) (who book : Int) : (askP d who book).q.length ≤ maxLen := by
  rcases ask_cases2 d who book with ⟨_, h⟩ | ⟨_, _, _, _, n, hn, _, h⟩
  · rw [h]; simp [cp0]
  · rw [h]; exact wf _ (List.getElem_mem hn)
theorem placeV_eq (d : Dk) (who book : Int) (h : askC d who book = 0) : placeV d who book = (if placeI (askP d who book).q who < 0 then 0 else placeI (askP d who book).q who) := by unfold placeV; rw [if_pos h]
theorem placeC_eq (d : Dk) (who book : Int) (h : askC d who book = 0) : placeC d who book = (if placeI (askP d who book).q who < 0 then 6 else 0) := by unfold placeC; rw [if_pos h]
theorem placeV_ne (d : Dk) (who book : Int) (h : ¬ askC d who book = 0) : placeV d who book = 0 := by unfold placeV; rw [if_neg h]
theorem placeC_ne (d : Dk) (who book : Int) (h : ¬ askC d who book = 0) : placeC d who book = askC d who book := by unfold placeC; rw [if_neg h]

end Go.Proofs.Ytmafjncaigllbab
