/- The law's copy of a list of books, contract. Condition: at most 1048576 books (the law tests it). -/
import Derived.Test.YtecpddkbbfpeeaaRow
namespace Go.Proofs.Ytecpddkbbfpeeaa
set_option linter.unusedSimpArgs false
set_option linter.unusedVariables false
set_option maxRecDepth 100000
open Go.RowKit

end Go.Proofs.Ytecpddkbbfpeeaa
