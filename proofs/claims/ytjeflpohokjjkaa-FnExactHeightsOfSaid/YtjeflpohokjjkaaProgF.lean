/- What the joined facts of every row ask of the whole program: proved once for the seat. -/
import Derived.Test.YtjeflpohokjjkaaOpen
namespace Go.Proofs.Ytjeflpohokjjkaa
set_option linter.unusedSimpArgs false
set_option linter.unusedVariables false
set_option maxRecDepth 100000
set_option maxRecDepth 100000
open Go.ChangeShapes Go.WideShapes Go.ChangeAt Go.RowKit
theorem pf1 : laidOutB Try.pinned.checked.prog = true := by kernel_rfl
theorem pf2 : mapsRowed Try.pinned.checked.prog = true := by kernel_rfl
theorem pf3 : Try.pinned.checked.prog.stops = [] := by kernel_rfl
theorem pf4 : Try.pinned.checked.prog.stopKnobs = [] := by kernel_rfl
theorem pf6 : Try.pinned.checked.prog.stopsHeard = true := by kernel_rfl
theorem pf7 : Try.pinned.checked.prog.mayEnter = true := by kernel_rfl
theorem pf8 : Try.pinned.checked.prog.liftsFinal = false := by kernel_rfl
end Go.Proofs.Ytjeflpohokjjkaa
