/- The law's own copy of a book, contract. No condition. -/
import Derived.Test.YtkcoakhfckipdaaDoorBk
namespace Go.Proofs.YtkcoakhfckipdaaDoor
set_option linter.unusedSimpArgs false
set_option linter.unusedVariables false
set_option maxRecDepth 100000
open Go.RowKit

end Go.Proofs.YtkcoakhfckipdaaDoor
