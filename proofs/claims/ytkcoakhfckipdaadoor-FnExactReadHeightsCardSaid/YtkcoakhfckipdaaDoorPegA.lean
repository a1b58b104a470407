/- How the laws' arguments read: pegs by value; the law's copy of pegs. No condition. -/
import Derived.Test.YtkcoakhfckipdaaDoorOpen
import Derived.Test.YtkcoakhfckipdaaDoorPegs
namespace Go.Proofs.YtkcoakhfckipdaaDoor
set_option linter.unusedSimpArgs false
set_option linter.unusedVariables false
set_option maxRecDepth 100000
open Go.ChangeShapes Go.WideShapes Go.ChangeAt Go.RowKit Go.Deep


/-- The box of pegs. -/
structure PegIn (w : World) (g : Nat) (p : Pg) : Prop where
  c0 : w.cell? ⟨g, 0, none⟩ = some (.int .i16 p.lo)
  c1 : w.cell? ⟨g, 1, none⟩ = some (.int .i16 p.st)
  c2 : w.cell? ⟨g, 2, none⟩ = some (.int .i16 p.bo)
theorem PegIn.new (w : World) (p : Pg) (t : TypeId) : PegIn (w.alloc (.cells #[.int .i16 p.lo, .int .i16 p.st, .int .i16 p.bo] t)) w.heap.size p := by
  refine ⟨?_, ?_, ?_⟩ <;> go_simp
theorem PegIn.below {w w' : World} {g : Nat} {p : Pg} (h : PegIn w g p) (hb : Below w.heap.size w w') (hg : g < w.heap.size) : PegIn w' g p :=
  ⟨(hb.cell (p := ⟨g, 0, none⟩) hg).trans h.c0, (hb.cell (p := ⟨g, 1, none⟩) hg).trans h.c1, (hb.cell (p := ⟨g, 2, none⟩) hg).trans h.c2⟩


end Go.Proofs.YtkcoakhfckipdaaDoor
