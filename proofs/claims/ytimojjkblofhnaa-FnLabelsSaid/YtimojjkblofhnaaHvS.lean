/- The heaviest books that stand next to each other on a width, by the model: a contract. Condition: no longer than a slice can be; numbers within their kinds. -/
import Derived.Test.YtimojjkblofhnaaHv
namespace Go.Proofs.Ytimojjkblofhnaa
set_option linter.unusedSimpArgs false
set_option linter.unusedVariables false
set_option maxRecDepth 100000
open Go.RowKit

theorem results_tmp4 {fn : Func} {t u v x : Tmp} (h : fn.results = #[.tmp t, .tmp u, .tmp v, .tmp x]) (tmps : Array Value) (P : Program) (w : World) :
    (results fn tmps).run P w = .ok (.tuple #[tmps.getD t undef, tmps.getD u undef, tmps.getD v undef, tmps.getD x undef]) w := by
  simp [results, h]

end Go.Proofs.Ytimojjkblofhnaa
