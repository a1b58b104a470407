/- The law of CompareBooks, walked. No condition. -/
import Derived.Test.YtahpcnfoiiggeaaFields
namespace Go.Proofs.Ytahpcnfoiiggeaa
set_option linter.unusedSimpArgs false
set_option linter.unusedVariables false
open Go.RowKit

set_option maxHeartbeats 2000000 in
theorem walkCompareBooks (a : Bk) (wa : a.Wf) (b : Bk) (wb : b.Wf) (w : World) :
    Calls Try.prog 9 #[.agg #[.int .i16 a.c, .int .u8 a.m0, .int .u8 a.m1, .int .u8 a.m2, .int .i16 a.v, .int .i16 a.wi, .int .i16 a.hi, .int .i16 a.we], .agg #[.int .i16 b.c, .int .u8 b.m0, .int .u8 b.m1, .int .u8 b.m2, .int .i16 b.v, .int .i16 b.wi, .int .i16 b.hi, .int .i16 b.we]] w fun e w' => e = .returned (.bool true) ∧ Below w.heap.size w w' := by
  have HA := Lib.hid wa
  have HB := Lib.hid wb
  clear wa wb
  go_enter Try.func9, Try.ntmps9
  go_wp2
  generalize hw0 : World.alloc _ _ = W
  have p0 : W.cell? ⟨w.heap.size, 0, none⟩ = some (.int .i16 a.c) := by rw [← hw0]; clear hw0; go_simp
  have q0 : W.cell? ⟨w.heap.size + 1, 0, none⟩ = some (.int .i16 b.c) := by rw [← hw0]; clear hw0; go_simp
  have p1 : W.cell? ⟨w.heap.size, 1, none⟩ = some (.int .u8 a.m0) := by rw [← hw0]; clear hw0; go_simp
  have q1 : W.cell? ⟨w.heap.size + 1, 1, none⟩ = some (.int .u8 b.m0) := by rw [← hw0]; clear hw0; go_simp
  have p2 : W.cell? ⟨w.heap.size, 2, none⟩ = some (.int .u8 a.m1) := by rw [← hw0]; clear hw0; go_simp
  have q2 : W.cell? ⟨w.heap.size + 1, 2, none⟩ = some (.int .u8 b.m1) := by rw [← hw0]; clear hw0; go_simp
  have p3 : W.cell? ⟨w.heap.size, 3, none⟩ = some (.int .u8 a.m2) := by rw [← hw0]; clear hw0; go_simp
  have q3 : W.cell? ⟨w.heap.size + 1, 3, none⟩ = some (.int .u8 b.m2) := by rw [← hw0]; clear hw0; go_simp
  have p4 : W.cell? ⟨w.heap.size, 4, none⟩ = some (.int .i16 a.v) := by rw [← hw0]; clear hw0; go_simp
  have q4 : W.cell? ⟨w.heap.size + 1, 4, none⟩ = some (.int .i16 b.v) := by rw [← hw0]; clear hw0; go_simp
  have p5 : W.cell? ⟨w.heap.size, 5, none⟩ = some (.int .i16 a.wi) := by rw [← hw0]; clear hw0; go_simp
  have q5 : W.cell? ⟨w.heap.size + 1, 5, none⟩ = some (.int .i16 b.wi) := by rw [← hw0]; clear hw0; go_simp
  have p6 : W.cell? ⟨w.heap.size, 6, none⟩ = some (.int .i16 a.hi) := by rw [← hw0]; clear hw0; go_simp
  have q6 : W.cell? ⟨w.heap.size + 1, 6, none⟩ = some (.int .i16 b.hi) := by rw [← hw0]; clear hw0; go_simp
  have p7 : W.cell? ⟨w.heap.size, 7, none⟩ = some (.int .i16 a.we) := by rw [← hw0]; clear hw0; go_simp
  have q7 : W.cell? ⟨w.heap.size + 1, 7, none⟩ = some (.int .i16 b.we) := by rw [← hw0]; clear hw0; go_simp
  have z0 : w.heap.size < W.heap.size := by rw [← hw0]; clear hw0; simp; omega
  have z1 : w.heap.size + 1 < W.heap.size := by rw [← hw0]; clear hw0; simp
  have g0 : Below w.heap.size w W := by rw [← hw0]; clear hw0; go_grown
  clear hw0
  have p0q := belowBy_cell z0 p0; have q0q := belowBy_cell z1 q0
  have p1q := belowBy_cell z0 p1; have q1q := belowBy_cell z1 q1
  have p2q := belowBy_cell z0 p2; have q2q := belowBy_cell z1 q2
  have p3q := belowBy_cell z0 p3; have q3q := belowBy_cell z1 q3
  have p4q := belowBy_cell z0 p4; have q4q := belowBy_cell z1 q4
  have p5q := belowBy_cell z0 p5; have q5q := belowBy_cell z1 q5
  have p6q := belowBy_cell z0 p6; have q6q := belowBy_cell z1 q6
  have p7q := belowBy_cell z0 p7; have q7q := belowBy_cell z1 q7
  refine wp_region_below (by kernel_rfl) (by kernel_rfl) ?_
  repeat (quiet_step ((first | (go_at_call 16; with_reducible exact calls_below (toBook_any a _)) | (go_at_call 16; with_reducible exact calls_below (toBook_any b _)) | (go_at_call 31; with_reducible exact calls_below (specCompareBooks_any a b HA.out HB.out _)))))
  refine wpQuiet_nil ?_
  rintro _ ⟨⟨w1, h1⟩, rfl⟩
  clear p0q q0q p1q q1q p2q q2q p3q q3q p4q q4q p5q q5q p6q q6q p7q q7q
  go_wp2
  have zz0 := Nat.lt_of_lt_of_le z0 h1.size
  have zz1 := Nat.lt_of_lt_of_le z1 h1.size
  have p0q := belowBy_cell zz0 ((h1.cell (p := ⟨w.heap.size, 0, none⟩) z0).trans p0); have q0q := belowBy_cell zz1 ((h1.cell (p := ⟨w.heap.size + 1, 0, none⟩) z1).trans q0)
  have p1q := belowBy_cell zz0 ((h1.cell (p := ⟨w.heap.size, 1, none⟩) z0).trans p1); have q1q := belowBy_cell zz1 ((h1.cell (p := ⟨w.heap.size + 1, 1, none⟩) z1).trans q1)
  have p2q := belowBy_cell zz0 ((h1.cell (p := ⟨w.heap.size, 2, none⟩) z0).trans p2); have q2q := belowBy_cell zz1 ((h1.cell (p := ⟨w.heap.size + 1, 2, none⟩) z1).trans q2)
  have p3q := belowBy_cell zz0 ((h1.cell (p := ⟨w.heap.size, 3, none⟩) z0).trans p3); have q3q := belowBy_cell zz1 ((h1.cell (p := ⟨w.heap.size + 1, 3, none⟩) z1).trans q3)
  have p4q := belowBy_cell zz0 ((h1.cell (p := ⟨w.heap.size, 4, none⟩) z0).trans p4); have q4q := belowBy_cell zz1 ((h1.cell (p := ⟨w.heap.size + 1, 4, none⟩) z1).trans q4)
  have p5q := belowBy_cell zz0 ((h1.cell (p := ⟨w.heap.size, 5, none⟩) z0).trans p5); have q5q := belowBy_cell zz1 ((h1.cell (p := ⟨w.heap.size + 1, 5, none⟩) z1).trans q5)
  have p6q := belowBy_cell zz0 ((h1.cell (p := ⟨w.heap.size, 6, none⟩) z0).trans p6); have q6q := belowBy_cell zz1 ((h1.cell (p := ⟨w.heap.size + 1, 6, none⟩) z1).trans q6)
  have p7q := belowBy_cell zz0 ((h1.cell (p := ⟨w.heap.size, 7, none⟩) z0).trans p7); have q7q := belowBy_cell zz1 ((h1.cell (p := ⟨w.heap.size + 1, 7, none⟩) z1).trans q7)
  clear p0 q0 p1 q1 p2 q2 p3 q3 p4 q4 p5 q5 p6 q6 p7 q7
  refine wp_region_below (by kernel_rfl) (by kernel_rfl) ?_
  repeat (quiet_step ((first | (go_at_call 16; with_reducible exact calls_below (toBook_any a _)) | (go_at_call 16; with_reducible exact calls_below (toBook_any b _)) | (go_at_call 32; with_reducible exact calls_below (compareBooks_any a b HA.out HB.out _)))))
  refine wpQuiet_nil ?_
  rintro _ ⟨⟨w2, h2⟩, rfl⟩
  clear p0q q0q p1q q1q p2q q2q p3q q3q p4q q4q p5q q5q p6q q6q p7q q7q
  generalize usual a b = r
  go_wp2
  go_ret
  exact ⟨rfl, g0.trans ((bnext h1 h2).mono g0.size)⟩

end Go.Proofs.Ytahpcnfoiiggeaa
