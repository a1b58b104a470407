/- The law's own copy of a book, contract. No condition. -/
import Derived.Test.YtecpddkbbfpeeaaBk
namespace Go.Proofs.Ytecpddkbbfpeeaa
set_option linter.unusedSimpArgs false
set_option linter.unusedVariables false
set_option maxRecDepth 100000
open Go.RowKit

end Go.Proofs.Ytecpddkbbfpeeaa
