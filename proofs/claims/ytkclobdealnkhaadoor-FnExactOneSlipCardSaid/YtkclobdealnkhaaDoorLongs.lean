/- The longest lists that can be kept, by the program: its function values, and the function that takes them: contracts. Condition: at most 60 books, whose numbers lie within their kinds. -/
import Derived.Test.YtkclobdealnkhaaDoorRuns2
import Derived.Test.YtkclobdealnkhaaDoorUse
import Derived.Test.YtkclobdealnkhaaDoorOwn
import Derived.StillTailTactics
namespace Go.Proofs.YtkclobdealnkhaaDoor
set_option linter.unusedSimpArgs false
set_option linter.unusedVariables false
set_option maxRecDepth 100000
open Go.RowKit

/-- A book in a block of its own. -/
def Bx (w : World) (g : Nat) (b : Bk) : Prop := w.heap[g]? = some (.cells #[.int .i16 b.c, .int .u8 b.m0, .int .u8 b.m1, .int .u8 b.m2, .int .i16 b.v, .int .i16 b.wi, .int .i16 b.hi, .int .i16 b.we] 65 (0, 0))
theorem Bx.lt {w : World} {g : Nat} {b : Bk} (h : Bx w g b) : g < w.heap.size := (Array.getElem?_eq_some_iff.1 h).1
theorem Bx.below {w w' : World} {n g : Nat} {b : Bk} (h : Bx w g b) (hb : Below n w w') (hg : g < n) : Bx w' g b := (hb.block g hg).trans h
theorem Bx.set {w : World} {g g' : Nat} {b : Bk} (h : Bx w g b) (hne : g ≠ g') (i : Nat) (v : Value) : Bx (w.setCell ⟨g', i, none⟩ v) g b := (Below.heap_setCell _ _ _ _ (by simpa using hne)).trans h
theorem Bx.cells {w : World} {g : Nat} {b : Bk} (h : Bx w g b) : w.cell? ⟨g, 0, none⟩ = some (.int .i16 b.c) ∧ w.cell? ⟨g, 1, none⟩ = some (.int .u8 b.m0) ∧ w.cell? ⟨g, 2, none⟩ = some (.int .u8 b.m1) ∧ w.cell? ⟨g, 3, none⟩ = some (.int .u8 b.m2) ∧ w.cell? ⟨g, 4, none⟩ = some (.int .i16 b.v) ∧ w.cell? ⟨g, 5, none⟩ = some (.int .i16 b.wi) ∧ w.cell? ⟨g, 6, none⟩ = some (.int .i16 b.hi) ∧ w.cell? ⟨g, 7, none⟩ = some (.int .i16 b.we) :=
  ⟨cell_of_row w g 0 _ _ _ h, cell_of_row w g 1 _ _ _ h, cell_of_row w g 2 _ _ _ h, cell_of_row w g 3 _ _ _ h, cell_of_row w g 4 _ _ _ h, cell_of_row w g 5 _ _ _ h, cell_of_row w g 6 _ _ _ h, cell_of_row w g 7 _ _ _ h⟩

theorem SliceOf.at_slice {w : World} {A : Option Addr} {c : Nat} {xs : List Bk} (h : SliceOf w (.slice A xs.length c) xs) : 0 < xs.length → ∃ g o, A = some ⟨g, o, none⟩ ∧ g < w.heap.size ∧ BooksAt w g o xs := by
  obtain ⟨A', c', e, h⟩ := h
  cases e
  exact h
theorem okB_60 {xs : List Bk} (h : okB xs = true) : xs.length ≤ 60 := by unfold okB at h; simp at h; exact h.2
theorem elemBooks' : Tryd.prog.underlying 29 = some (.slice (Tryd.prog.elem 29)) := by kernel_rfl
theorem sizeBook' (w : World) : (sizeOf (Tryd.prog.elem 29)).run Tryd.prog w = .ok 8 w := by kernel_rfl
theorem run_preB (g o n c k : Nat) (hk : k ≤ c) (w : World) :
    (Instr.slice 29 (.slice (some ⟨g, o, none⟩) n c) none (some (.int .i64 (k : Int))) none).run Tryd.prog w = .ok (.slice (some ⟨g, o, none⟩) k c) w := by
  rw [run_slice_h w _ _ _ _ elemBooks' _ _ (by omega) (by omega), sizeBook']
  simp [Result.andThen, sliced, Addr.add]

theorem made_row (w : World) (P : Nat → Nat → Bool) (t : TypeId) (n : Nat) (hn : n ≤ maxLen) :
    (w.alloc (.cells (madeCells (Value.int .i64 0).cells n) t)).ownsRow w.heap.size t 1 (.slice (some ⟨w.heap.size, 0, none⟩) n n) n ((rowR P n 0).map (Value.int .i64)) := by
  have e : (madeCells (Value.int .i64 0).cells n).toList = (rowR P n 0).map (Value.int .i64) := by
    rw [show (Value.int .i64 0).cells = #[Value.int .i64 0] from rfl, toList_madeCells_one, rowR_zero]
    simp
  have hl : ((rowR P n 0).map (Value.int .i64)).length = n := by rw [rowR_zero]; simp
  refine ⟨by rw [hl]; omega, .inr ⟨w.heap.size, n, _, rfl, Nat.le_refl _, heap_alloc_new w _, Nat.le_refl _, hn, by rw [size_madeCells]; omega, ?_⟩⟩
  rw [e, List.take_of_length_le (by omega)]

end Go.Proofs.YtkclobdealnkhaaDoor
