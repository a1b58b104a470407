/- The model's greater one of two numbers: a contract. No condition. -/
import Derived.Test.YtmafjncaigllbabOpen
namespace Go.Proofs.Ytmafjncaigllbab
set_option linter.unusedSimpArgs false
set_option linter.unusedVariables false
set_option maxRecDepth 100000
open Go.RowKit

end Go.Proofs.Ytmafjncaigllbab
