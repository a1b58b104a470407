/- Both functions that tell the runs of a list: contracts. Condition: at most 1048576 books, whose numbers lie within their kinds. -/
import Derived.Test.YtecpddkbbfpeeaaRuns
import Derived.Maps.AppendAt
namespace Go.Proofs.Ytecpddkbbfpeeaa
set_option linter.unusedSimpArgs false
set_option linter.unusedVariables false
set_option maxRecDepth 100000
open Go.RowKit

theorem infoInt64 : (Try.prog.info? 2).map (fun i => (i.zero, i.size, i.bytes)) = some (some (.int .i64 0), 1, 8) := by kernel_rfl

end Go.Proofs.Ytecpddkbbfpeeaa
