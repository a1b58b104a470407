/- The longest lists that can be kept, by the model: contracts. Condition: at most 60 books, whose numbers lie within their kinds. -/
import Derived.Test.YtgfffbnodinkcabDoorLongs
import Derived.Test.YtgfffbnodinkcabDoorMax
namespace Go.Proofs.YtgfffbnodinkcabDoor
set_option linter.unusedSimpArgs false
set_option linter.unusedVariables false
set_option maxRecDepth 100000
open Go.RowKit

theorem own_slice {w : World} {base : Nat} {e : TypeId} {v : Value} {n : Nat} {l : List Value} (h : w.ownsRow base e 1 v n l) (hn : 0 < n) : ∃ g c, v = .slice (some ⟨g, 0, none⟩) n c := by
  rcases h.2 with ⟨_, h⟩ | ⟨g, cap, cur, h, _⟩
  · omega
  · exact ⟨g, cap, h⟩
theorem chains_at (P : Nat → Nat → Bool) {i k : Nat} (h : k < i) : ((chains P i).map (Value.int .i64))[k]? = some (.int .i64 ((chains P i).getD k 0)) := by
  rw [List.getElem?_map, List.getD_eq_getElem?_getD, List.getElem?_eq_getElem (by rw [chains_length]; exact h)]
  rfl

end Go.Proofs.YtgfffbnodinkcabDoor
