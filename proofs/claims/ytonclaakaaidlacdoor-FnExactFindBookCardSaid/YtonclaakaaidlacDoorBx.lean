/- A book in a block of its own. No condition. -/
import Derived.Test.YtonclaakaaidlacDoorOpen
import Derived.Test.YtonclaakaaidlacDoorQuiet
namespace Go.Proofs.YtonclaakaaidlacDoor
set_option linter.unusedSimpArgs false
set_option linter.unusedVariables false
set_option maxRecDepth 100000
open Go.RowKit

/-- A book in a block of its own. -/
def Bx (w : World) (g : Nat) (b : Bk) : Prop := w.heap[g]? = some (.cells #[.int .i16 b.c, .int .u8 b.m0, .int .u8 b.m1, .int .u8 b.m2, .int .i16 b.v, .int .i16 b.wi, .int .i16 b.hi, .int .i16 b.we] 36 (0, 0))
theorem Bx.lt {w : World} {g : Nat} {b : Bk} (h : Bx w g b) : g < w.heap.size := (Array.getElem?_eq_some_iff.1 h).1
theorem Bx.below {w w' : World} {n g : Nat} {b : Bk} (h : Bx w g b) (hb : Below n w w') (hg : g < n) : Bx w' g b := (hb.block g hg).trans h
theorem Bx.set {w : World} {g g' : Nat} {b : Bk} (h : Bx w g b) (hne : g ≠ g') (i : Nat) (v : Value) : Bx (w.setCell ⟨g', i, none⟩ v) g b := (Below.heap_setCell _ _ _ _ (by simpa using hne)).trans h
theorem Bx.cells {w : World} {g : Nat} {b : Bk} (h : Bx w g b) : w.cell? ⟨g, 0, none⟩ = some (.int .i16 b.c) ∧ w.cell? ⟨g, 1, none⟩ = some (.int .u8 b.m0) ∧ w.cell? ⟨g, 2, none⟩ = some (.int .u8 b.m1) ∧ w.cell? ⟨g, 3, none⟩ = some (.int .u8 b.m2) ∧ w.cell? ⟨g, 4, none⟩ = some (.int .i16 b.v) ∧ w.cell? ⟨g, 5, none⟩ = some (.int .i16 b.wi) ∧ w.cell? ⟨g, 6, none⟩ = some (.int .i16 b.hi) ∧ w.cell? ⟨g, 7, none⟩ = some (.int .i16 b.we) :=
  ⟨cell_of_row w g 0 _ _ _ h, cell_of_row w g 1 _ _ _ h, cell_of_row w g 2 _ _ _ h, cell_of_row w g 3 _ _ _ h, cell_of_row w g 4 _ _ _ h, cell_of_row w g 5 _ _ _ h, cell_of_row w g 6 _ _ _ h, cell_of_row w g 7 _ _ _ h⟩

end Go.Proofs.YtonclaakaaidlacDoor
