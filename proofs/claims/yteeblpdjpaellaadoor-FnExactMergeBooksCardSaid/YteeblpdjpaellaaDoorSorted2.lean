/- Whether a list is sorted, by the program: a contract. Condition: as for XSorted. -/
import Derived.Test.YteeblpdjpaellaaDoorSorted
import Derived.Stop.IfaceNil
namespace Go.Proofs.YteeblpdjpaellaaDoor
set_option linter.unusedSimpArgs false
set_option linter.unusedVariables false
set_option maxRecDepth 100000
open Go.RowKit

theorem cell_new1 (w : World) (v : Value) (t : TypeId) (r : Nat × Nat) : (w.alloc (.cells #[v] t r)).cell? ⟨w.heap.size, 0, none⟩ = some v := cell_of_row _ _ 0 _ _ _ (heap_alloc_new w _)

end Go.Proofs.YteeblpdjpaellaaDoor
