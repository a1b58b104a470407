/- Two books compared by one field, by the program: contract. Condition: the field is one of the six, with a minus or without. -/
import Derived.Test.YtecpddkbbfpeeaaKeys
import Derived.Laws.EntriesVeiled
import Derived.BigRegion
import Derived.RegionTactic
namespace Go.Proofs.Ytecpddkbbfpeeaa
set_option linter.unusedSimpArgs false
set_option linter.unusedVariables false
set_option maxRecDepth 100000
open Go.RowKit

set_option maxHeartbeats 8000000 in
theorem compareField_pos (f : Int) (hf : 1 ≤ f ∧ f ≤ 6) (a b : Bk) (ha : a.Wf) (hb : b.Wf) (w : World) :
    Calls Try.prog 56 #[.int .i8 f, .agg #[.int .i16 a.c, .int .u8 a.m0, .int .u8 a.m1, .int .u8 a.m2, .int .i16 a.v, .int .i16 a.wi, .int .i16 a.hi, .int .i16 a.we], .agg #[.int .i16 b.c, .int .u8 b.m0, .int .u8 b.m1, .int .u8 b.m2, .int .i16 b.v, .int .i16 b.wi, .int .i16 b.hi, .int .i16 b.we]] w
      fun e w' => e = .returned (.int .i64 (sgn (keyOf f a) (keyOf f b))) ∧ Below w.heap.size w w' := by
  have HA := Lib.hid ha
  have HB := Lib.hid hb
  clear ha hb
  have : f = 1 ∨ f = 2 ∨ f = 3 ∨ f = 4 ∨ f = 5 ∨ f = 6 := by omega
  clear hf
  rcases this with rfl | rfl | rfl | rfl | rfl | rfl
  all_goals
    go_enter Try.func56, Try.ntmps56
    go_wp2
    generalize hw0 : World.alloc _ _ = W
    have p0 : W.cell? ⟨w.heap.size, 0, none⟩ = some (.int .i16 a.c) := by rw [← hw0]; clear hw0; go_simp
    have q0 : W.cell? ⟨w.heap.size + 1, 0, none⟩ = some (.int .i16 b.c) := by rw [← hw0]; clear hw0; go_simp
    have p1 : W.cell? ⟨w.heap.size, 1, none⟩ = some (.int .u8 a.m0) := by rw [← hw0]; clear hw0; go_simp
    have q1 : W.cell? ⟨w.heap.size + 1, 1, none⟩ = some (.int .u8 b.m0) := by rw [← hw0]; clear hw0; go_simp
    have p2 : W.cell? ⟨w.heap.size, 2, none⟩ = some (.int .u8 a.m1) := by rw [← hw0]; clear hw0; go_simp
    have q2 : W.cell? ⟨w.heap.size + 1, 2, none⟩ = some (.int .u8 b.m1) := by rw [← hw0]; clear hw0; go_simp
    have p3 : W.cell? ⟨w.heap.size, 3, none⟩ = some (.int .u8 a.m2) := by rw [← hw0]; clear hw0; go_simp
    have q3 : W.cell? ⟨w.heap.size + 1, 3, none⟩ = some (.int .u8 b.m2) := by rw [← hw0]; clear hw0; go_simp
    have p4 : W.cell? ⟨w.heap.size, 4, none⟩ = some (.int .i16 a.v) := by rw [← hw0]; clear hw0; go_simp
    have q4 : W.cell? ⟨w.heap.size + 1, 4, none⟩ = some (.int .i16 b.v) := by rw [← hw0]; clear hw0; go_simp
    have p5 : W.cell? ⟨w.heap.size, 5, none⟩ = some (.int .i16 a.wi) := by rw [← hw0]; clear hw0; go_simp
    have q5 : W.cell? ⟨w.heap.size + 1, 5, none⟩ = some (.int .i16 b.wi) := by rw [← hw0]; clear hw0; go_simp
    have p6 : W.cell? ⟨w.heap.size, 6, none⟩ = some (.int .i16 a.hi) := by rw [← hw0]; clear hw0; go_simp
    have q6 : W.cell? ⟨w.heap.size + 1, 6, none⟩ = some (.int .i16 b.hi) := by rw [← hw0]; clear hw0; go_simp
    have p7 : W.cell? ⟨w.heap.size, 7, none⟩ = some (.int .i16 a.we) := by rw [← hw0]; clear hw0; go_simp
    have q7 : W.cell? ⟨w.heap.size + 1, 7, none⟩ = some (.int .i16 b.we) := by rw [← hw0]; clear hw0; go_simp
    have z0 : w.heap.size < W.heap.size := by rw [← hw0]; clear hw0; simp; omega
    have z1 : w.heap.size + 1 < W.heap.size := by rw [← hw0]; clear hw0; simp
    have g0 : Below w.heap.size w W := by rw [← hw0]; clear hw0; go_grown
    clear hw0
    have p0 := belowBy_cell z0 p0; have q0 := belowBy_cell z1 q0
    have p1 := belowBy_cell z0 p1; have q1 := belowBy_cell z1 q1
    have p2 := belowBy_cell z0 p2; have q2 := belowBy_cell z1 q2
    have p3 := belowBy_cell z0 p3; have q3 := belowBy_cell z1 q3
    have p4 := belowBy_cell z0 p4; have q4 := belowBy_cell z1 q4
    have p5 := belowBy_cell z0 p5; have q5 := belowBy_cell z1 q5
    have p6 := belowBy_cell z0 p6; have q6 := belowBy_cell z1 q6
    have p7 := belowBy_cell z0 p7; have q7 := belowBy_cell z1 q7
    refine wp_region_below (by kernel_rfl) (by kernel_rfl) ?_
    repeat (quiet_step ((first | (go_at_call 68; with_reducible exact calls_below (classKey_any a HA.out _)) | (go_at_call 68; with_reducible exact calls_below (classKey_any b HB.out _)) | (go_at_call 69; with_reducible exact calls_below (markKey_any a HA.out _)) | (go_at_call 69; with_reducible exact calls_below (markKey_any b HB.out _)) | (go_at_call 70; with_reducible exact calls_below (volumeKey_any a HA.out _)) | (go_at_call 70; with_reducible exact calls_below (volumeKey_any b HB.out _)) | (go_at_call 31; with_reducible exact calls_below (wideKey_any a HA.out _)) | (go_at_call 31; with_reducible exact calls_below (wideKey_any b HB.out _)) | (go_at_call 35; with_reducible exact calls_below (highKey_any a HA.out _)) | (go_at_call 35; with_reducible exact calls_below (highKey_any b HB.out _)) | (go_at_call 32; with_reducible exact calls_below (weightKey_any a HA.out _)) | (go_at_call 32; with_reducible exact calls_below (weightKey_any b HB.out _)) | (go_at_call 71; exact calls_same_below (cmpCompare_any _ _ _)))))
    refine wpQuiet_nil ?_
    rintro _ ⟨⟨wq, hq⟩, rfl⟩
    clear p0 p1 p2 p3 p4 p5 p6 p7 q0 q1 q2 q3 q4 q5 q6 q7
    go_wp2
    go_ret
    exact ⟨rfl, g0.trans (hq.mono g0.size)⟩

set_option maxHeartbeats 8000000 in
theorem compareField_neg (f : Int) (hf : 1 ≤ f ∧ f ≤ 6) (a b : Bk) (ha : a.Wf) (hb : b.Wf) (w : World) :
    Calls Try.prog 56 #[.int .i8 (-f), .agg #[.int .i16 a.c, .int .u8 a.m0, .int .u8 a.m1, .int .u8 a.m2, .int .i16 a.v, .int .i16 a.wi, .int .i16 a.hi, .int .i16 a.we], .agg #[.int .i16 b.c, .int .u8 b.m0, .int .u8 b.m1, .int .u8 b.m2, .int .i16 b.v, .int .i16 b.wi, .int .i16 b.hi, .int .i16 b.we]] w
      fun e w' => e = .returned (.int .i64 (sgn (keyOf f b) (keyOf f a))) ∧ Below w.heap.size w w' := by
  have HA := Lib.hid ha
  have HB := Lib.hid hb
  clear ha hb
  have : f = 1 ∨ f = 2 ∨ f = 3 ∨ f = 4 ∨ f = 5 ∨ f = 6 := by omega
  clear hf
  rcases this with rfl | rfl | rfl | rfl | rfl | rfl
  all_goals
    go_enter Try.func56, Try.ntmps56
    go_wp2
    go_region
    go_wp2
    generalize hw0 : World.drew _ = W
    have p0 : W.cell? ⟨w.heap.size, 0, none⟩ = some (.int .i16 b.c) := by rw [← hw0]; clear hw0; go_simp
    have q0 : W.cell? ⟨w.heap.size + 1, 0, none⟩ = some (.int .i16 a.c) := by rw [← hw0]; clear hw0; go_simp
    have p1 : W.cell? ⟨w.heap.size, 1, none⟩ = some (.int .u8 b.m0) := by rw [← hw0]; clear hw0; go_simp
    have q1 : W.cell? ⟨w.heap.size + 1, 1, none⟩ = some (.int .u8 a.m0) := by rw [← hw0]; clear hw0; go_simp
    have p2 : W.cell? ⟨w.heap.size, 2, none⟩ = some (.int .u8 b.m1) := by rw [← hw0]; clear hw0; go_simp
    have q2 : W.cell? ⟨w.heap.size + 1, 2, none⟩ = some (.int .u8 a.m1) := by rw [← hw0]; clear hw0; go_simp
    have p3 : W.cell? ⟨w.heap.size, 3, none⟩ = some (.int .u8 b.m2) := by rw [← hw0]; clear hw0; go_simp
    have q3 : W.cell? ⟨w.heap.size + 1, 3, none⟩ = some (.int .u8 a.m2) := by rw [← hw0]; clear hw0; go_simp
    have p4 : W.cell? ⟨w.heap.size, 4, none⟩ = some (.int .i16 b.v) := by rw [← hw0]; clear hw0; go_simp
    have q4 : W.cell? ⟨w.heap.size + 1, 4, none⟩ = some (.int .i16 a.v) := by rw [← hw0]; clear hw0; go_simp
    have p5 : W.cell? ⟨w.heap.size, 5, none⟩ = some (.int .i16 b.wi) := by rw [← hw0]; clear hw0; go_simp
    have q5 : W.cell? ⟨w.heap.size + 1, 5, none⟩ = some (.int .i16 a.wi) := by rw [← hw0]; clear hw0; go_simp
    have p6 : W.cell? ⟨w.heap.size, 6, none⟩ = some (.int .i16 b.hi) := by rw [← hw0]; clear hw0; go_simp
    have q6 : W.cell? ⟨w.heap.size + 1, 6, none⟩ = some (.int .i16 a.hi) := by rw [← hw0]; clear hw0; go_simp
    have p7 : W.cell? ⟨w.heap.size, 7, none⟩ = some (.int .i16 b.we) := by rw [← hw0]; clear hw0; go_simp
    have q7 : W.cell? ⟨w.heap.size + 1, 7, none⟩ = some (.int .i16 a.we) := by rw [← hw0]; clear hw0; go_simp
    have z0 : w.heap.size < W.heap.size := by rw [← hw0]; clear hw0; simp; omega
    have z1 : w.heap.size + 1 < W.heap.size := by rw [← hw0]; clear hw0; simp
    have g0 : Below w.heap.size w W := by rw [← hw0]; clear hw0; go_grown
    clear hw0
    have p0 := belowBy_cell z0 p0; have q0 := belowBy_cell z1 q0
    have p1 := belowBy_cell z0 p1; have q1 := belowBy_cell z1 q1
    have p2 := belowBy_cell z0 p2; have q2 := belowBy_cell z1 q2
    have p3 := belowBy_cell z0 p3; have q3 := belowBy_cell z1 q3
    have p4 := belowBy_cell z0 p4; have q4 := belowBy_cell z1 q4
    have p5 := belowBy_cell z0 p5; have q5 := belowBy_cell z1 q5
    have p6 := belowBy_cell z0 p6; have q6 := belowBy_cell z1 q6
    have p7 := belowBy_cell z0 p7; have q7 := belowBy_cell z1 q7
    refine wp_region_below (by kernel_rfl) (by kernel_rfl) ?_
    repeat (quiet_step ((first | (go_at_call 68; with_reducible exact calls_below (classKey_any a HA.out _)) | (go_at_call 68; with_reducible exact calls_below (classKey_any b HB.out _)) | (go_at_call 69; with_reducible exact calls_below (markKey_any a HA.out _)) | (go_at_call 69; with_reducible exact calls_below (markKey_any b HB.out _)) | (go_at_call 70; with_reducible exact calls_below (volumeKey_any a HA.out _)) | (go_at_call 70; with_reducible exact calls_below (volumeKey_any b HB.out _)) | (go_at_call 31; with_reducible exact calls_below (wideKey_any a HA.out _)) | (go_at_call 31; with_reducible exact calls_below (wideKey_any b HB.out _)) | (go_at_call 35; with_reducible exact calls_below (highKey_any a HA.out _)) | (go_at_call 35; with_reducible exact calls_below (highKey_any b HB.out _)) | (go_at_call 32; with_reducible exact calls_below (weightKey_any a HA.out _)) | (go_at_call 32; with_reducible exact calls_below (weightKey_any b HB.out _)) | (go_at_call 71; exact calls_same_below (cmpCompare_any _ _ _)))))
    refine wpQuiet_nil ?_
    rintro _ ⟨⟨wq, hq⟩, rfl⟩
    clear p0 p1 p2 p3 p4 p5 p6 p7 q0 q1 q2 q3 q4 q5 q6 q7
    go_wp2
    go_ret
    exact ⟨rfl, g0.trans (hq.mono g0.size)⟩

end Go.Proofs.Ytecpddkbbfpeeaa
