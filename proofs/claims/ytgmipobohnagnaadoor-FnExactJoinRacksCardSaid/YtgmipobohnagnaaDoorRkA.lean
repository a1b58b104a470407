/- The law's copy of a book in a place: contracts. Condition: at most 1048576 books. -/
import Derived.Test.YtgmipobohnagnaaDoorPl
import Derived.Deep.Cut
namespace Go.Proofs.YtgmipobohnagnaaDoor
set_option linter.unusedSimpArgs false
set_option linter.unusedVariables false
set_option maxRecDepth 100000
open Go.RowKit

theorem al3 (w : World) (a b c : Obj) : (((w.alloc a).alloc b).alloc c).heap[w.heap.size + 1]? = some b ∧ (((w.alloc a).alloc b).alloc c).heap[w.heap.size + 1 + 1]? = some c := by
  constructor
  · rw [Below.heap_alloc _ _ _ (by simp)]
    have := heap_alloc_new (w.alloc a) b
    simpa using this
  · have := heap_alloc_new ((w.alloc a).alloc b) c
    simpa using this
set_option maxHeartbeats 4000000 in
theorem toPlaced_any (x : Pl) (w : World) :
    Calls Tryd.prog 27 #[.agg #[.int .i16 x.p, .int .i16 x.b.c, .int .u8 x.b.m0, .int .u8 x.b.m1, .int .u8 x.b.m2, .int .i16 x.b.v, .int .i16 x.b.wi, .int .i16 x.b.hi, .int .i16 x.b.we]] w fun e w' => e = .returned (.agg #[.int .i16 x.p, .int .i16 x.b.c, .int .u8 x.b.m0, .int .u8 x.b.m1, .int .u8 x.b.m2, .int .i16 x.b.v, .int .i16 x.b.wi, .int .i16 x.b.hi, .int .i16 x.b.we]) ∧ Below w.heap.size w w' := by
  have HB := Lib.hid (al3 w (.cells #[.int .i16 x.p, .int .i16 x.b.c, .int .u8 x.b.m0, .int .u8 x.b.m1, .int .u8 x.b.m2, .int .i16 x.b.v, .int .i16 x.b.wi, .int .i16 x.b.hi, .int .i16 x.b.we] 70) (.cells #[.int .i16 0, .int .i16 0, .int .u8 0, .int .u8 0, .int .u8 0, .int .i16 0, .int .i16 0, .int .i16 0, .int .i16 0] 45) (.cells #[.int .i16 x.p, .int .i16 0, .int .u8 0, .int .u8 0, .int .u8 0, .int .i16 0, .int .i16 0, .int .i16 0, .int .i16 0] 45))
  go_enter Tryd.func27, Tryd.ntmps27
  go_wp2_with fail
  refine (toBook_any x.b _).mono ?_
  rintro e w1 ⟨rfl, h1⟩
  have G1 := Lib.hid (bnext (show Below w.heap.size w _ by go_grown) h1)
  have b1 := Lib.hid ((h1.block (w.heap.size + 1) (by simp)).trans HB.out.1)
  have b2 := Lib.hid ((h1.block (w.heap.size + 1 + 1) (by simp)).trans HB.out.2)
  clear h1
  have o0 := cell_of_row w1 _ 0 _ _ _ b2.out
  have o1 := cell_of_row w1 _ 1 _ _ _ b2.out
  have o2 := cell_of_row w1 _ 2 _ _ _ b2.out
  have o3 := cell_of_row w1 _ 3 _ _ _ b2.out
  have o4 := cell_of_row w1 _ 4 _ _ _ b2.out
  have o5 := cell_of_row w1 _ 5 _ _ _ b2.out
  have o6 := cell_of_row w1 _ 6 _ _ _ b2.out
  have o7 := cell_of_row w1 _ 7 _ _ _ b2.out
  have o8 := cell_of_row w1 _ 8 _ _ _ b2.out
  have f2 := fun j => frozen_of_row w1 _ j _ _ b2.out
  simp only [List.getElem?_toArray, List.getElem?_cons_zero, List.getElem?_cons_succ] at o0 o1 o2 o3 o4 o5 o6 o7 o8
  go_upto_region 4 with (fail)
  clear o0 o1 o2 o3 o4 o5 o6 o7 o8 f2
  generalize hW : World.setCell _ _ _ = W2
  have c2 : W2.heap[w.heap.size + 1 + 1]? = some (.cells #[.int .i16 x.p, .int .i16 x.b.c, .int .u8 x.b.m0, .int .u8 x.b.m1, .int .u8 x.b.m2, .int .i16 x.b.v, .int .i16 x.b.wi, .int .i16 x.b.hi, .int .i16 x.b.we] 45 (0, 0)) := by
    rw [← hW]
    exact heap_setCell_same _ _ _ _ _ _ (heap_setCell_same _ _ _ _ _ _ (heap_setCell_same _ _ _ _ _ _ (heap_setCell_same _ _ _ _ _ _ (heap_setCell_same _ _ _ _ _ _ (heap_setCell_same _ _ _ _ _ _ (heap_setCell_same _ _ _ _ _ _ (heap_setCell_same _ _ _ _ _ _ (b2.out))))))))
  have c1 : W2.heap[w.heap.size + 1]? = some (.cells #[.int .i16 0, .int .i16 0, .int .u8 0, .int .u8 0, .int .u8 0, .int .i16 0, .int .i16 0, .int .i16 0, .int .i16 0] 45 (0, 0)) := by
    rw [← hW]
    iterate 8 (refine (Below.heap_setCell _ _ _ _ (by simp)).trans ?_)
    exact b1.out
  have g2 : Below w.heap.size w W2 := by
    rw [← hW]
    repeat (refine Below.setCell ?_ (by first | (simp; done) | (simp; omega) | omega) _)
    exact G1.out
  clear hW G1 b1 b2 HB
  have o0 := cell_of_row W2 _ 0 _ _ _ c2
  have r0 := cell_of_row W2 _ 0 _ _ _ c1
  have o1 := cell_of_row W2 _ 1 _ _ _ c2
  have r1 := cell_of_row W2 _ 1 _ _ _ c1
  have o2 := cell_of_row W2 _ 2 _ _ _ c2
  have r2 := cell_of_row W2 _ 2 _ _ _ c1
  have o3 := cell_of_row W2 _ 3 _ _ _ c2
  have r3 := cell_of_row W2 _ 3 _ _ _ c1
  have o4 := cell_of_row W2 _ 4 _ _ _ c2
  have r4 := cell_of_row W2 _ 4 _ _ _ c1
  have o5 := cell_of_row W2 _ 5 _ _ _ c2
  have r5 := cell_of_row W2 _ 5 _ _ _ c1
  have o6 := cell_of_row W2 _ 6 _ _ _ c2
  have r6 := cell_of_row W2 _ 6 _ _ _ c1
  have o7 := cell_of_row W2 _ 7 _ _ _ c2
  have r7 := cell_of_row W2 _ 7 _ _ _ c1
  have o8 := cell_of_row W2 _ 8 _ _ _ c2
  have r8 := cell_of_row W2 _ 8 _ _ _ c1
  have f1 := fun j => frozen_of_row W2 _ j _ _ c1
  have G2 := Lib.hid g2
  clear c1 c2 g2
  simp only [List.getElem?_toArray, List.getElem?_cons_zero, List.getElem?_cons_succ] at o0 r0 o1 r1 o2 r2 o3 r3 o4 r4 o5 r5 o6 r6 o7 r7 o8 r8
  go_wp2
  refine bodyPost_ret (v := .agg #[.int .i16 x.p, .int .i16 x.b.c, .int .u8 x.b.m0, .int .u8 x.b.m1, .int .u8 x.b.m2, .int .i16 x.b.v, .int .i16 x.b.wi, .int .i16 x.b.hi, .int .i16 x.b.we]) (by simp [results, Tryd.results27, go_sem, r0, r1, r2, r3, r4, r5, r6, r7, r8]) rfl ?_
  refine ⟨rfl, ?_⟩
  repeat (refine Below.setCell ?_ (by first | (simp; done) | (simp; omega) | omega) _)
  exact G2.out

end Go.Proofs.YtgmipobohnagnaaDoor
