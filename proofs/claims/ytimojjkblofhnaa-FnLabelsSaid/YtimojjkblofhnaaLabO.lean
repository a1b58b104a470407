/- LabelOf, by the program: a contract. Condition: its numbers lie within their kinds. -/
import Derived.Test.YtimojjkblofhnaaLabT
namespace Go.Proofs.Ytimojjkblofhnaa
set_option linter.unusedSimpArgs false
set_option linter.unusedVariables false
set_option maxRecDepth 100000
open Go.RowKit

theorem bookB_bd {b : Bk} (h : bookB b = true) : (0 ≤ b.c ∧ b.c ≤ 999) ∧ (0 ≤ b.v ∧ b.v ≤ 99) ∧ (97 ≤ b.m0 ∧ b.m0 ≤ 122) ∧ (97 ≤ b.m1 ∧ b.m1 ≤ 122) ∧ (97 ≤ b.m2 ∧ b.m2 ≤ 122) ∧ 1 ≤ b.v := by
  unfold bookB markB inB at h
  simp only [Bool.and_eq_true, decide_eq_true_eq] at h
  omega

theorem validBookB_any (b : Bk) (w : World) :
    Calls Try.prog 18 #[.agg #[.int .i16 b.c, .int .u8 b.m0, .int .u8 b.m1, .int .u8 b.m2, .int .i16 b.v, .int .i16 b.wi, .int .i16 b.hi, .int .i16 b.we]] w fun e w' => e = .returned (.bool (bookB b)) ∧ Below w.heap.size w w' :=
  (validBook_any b w).mono fun e w' h => ⟨h.1, h.2 ▸ (Below.refl _ _).alloc (Nat.le_refl _) _⟩

set_option maxHeartbeats 4000000 in
theorem labelOf_any (b : Bk) (wb : b.Wf) (w : World) :
    Calls Try.prog 6 #[.agg #[.int .i16 b.c, .int .u8 b.m0, .int .u8 b.m1, .int .u8 b.m2, .int .i16 b.v, .int .i16 b.wi, .int .i16 b.hi, .int .i16 b.we]] w fun e w' => e = .returned (.string (labR b)) ∧ Below w.heap.size w w' := by
  have GX := Lib.hid (show Below w.heap.size w (w.alloc (.cells #[.int .i16 b.c, .int .u8 b.m0, .int .u8 b.m1, .int .u8 b.m2, .int .i16 b.v, .int .i16 b.wi, .int .i16 b.hi, .int .i16 b.we] 27)) from (Below.refl _ _).alloc (Nat.le_refl _) _)
  have BX := Lib.hid (heap_alloc_new w (.cells #[.int .i16 b.c, .int .u8 b.m0, .int .u8 b.m1, .int .u8 b.m2, .int .i16 b.v, .int .i16 b.wi, .int .i16 b.hi, .int .i16 b.we] 27))
  have YX := Lib.hid (show w.heap.size < (w.alloc (.cells #[.int .i16 b.c, .int .u8 b.m0, .int .u8 b.m1, .int .u8 b.m2, .int .i16 b.v, .int .i16 b.wi, .int .i16 b.hi, .int .i16 b.we] 27)).heap.size by simp)
  have VB := Lib.hid (fun W => validBookB_any b W)
  cases hk : bookB b
  · have E := Lib.hid (show labR b = ⟨#[]⟩ by unfold labR; rw [hk]; rfl)
    rw [hk] at VB
    clear hk
    go_enter Try.func6, Try.ntmps6
    go_upto_region 1 with (fail)
    generalize World.alloc w _ = W1 at GX BX YX ⊢
    have q0 : W1.cell? ⟨w.heap.size, 0, none⟩ = some (.int .i16 b.c) := cell_of_row W1 _ 0 _ _ _ BX.out
    have q1 : W1.cell? ⟨w.heap.size, 1, none⟩ = some (.int .u8 b.m0) := cell_of_row W1 _ 1 _ _ _ BX.out
    have q2 : W1.cell? ⟨w.heap.size, 2, none⟩ = some (.int .u8 b.m1) := cell_of_row W1 _ 2 _ _ _ BX.out
    have q3 : W1.cell? ⟨w.heap.size, 3, none⟩ = some (.int .u8 b.m2) := cell_of_row W1 _ 3 _ _ _ BX.out
    have q4 : W1.cell? ⟨w.heap.size, 4, none⟩ = some (.int .i16 b.v) := cell_of_row W1 _ 4 _ _ _ BX.out
    have q5 : W1.cell? ⟨w.heap.size, 5, none⟩ = some (.int .i16 b.wi) := cell_of_row W1 _ 5 _ _ _ BX.out
    have q6 : W1.cell? ⟨w.heap.size, 6, none⟩ = some (.int .i16 b.hi) := cell_of_row W1 _ 6 _ _ _ BX.out
    have q7 : W1.cell? ⟨w.heap.size, 7, none⟩ = some (.int .i16 b.we) := cell_of_row W1 _ 7 _ _ _ BX.out
    go_wp2_with fail
    refine (VB.out _).mono ?_
    rintro e w2 ⟨rfl, h2⟩
    clear q0 q1 q2 q3 q4 q5 q6 q7
    go_wp2
    go_ret
    exact ⟨by rw [E.out]; rfl, bnext GX.out h2⟩
  · have E := Lib.hid (show labR b = labS b by unfold labR; rw [hk]; rfl)
    obtain ⟨hc, hv, _⟩ := bookB_bd hk
    have LT := Lib.hid (fun W => labelText_any b wb hc hv W)
    rw [hk] at VB
    clear hk hc hv
    go_enter Try.func6, Try.ntmps6
    go_upto_region 1 with (fail)
    generalize World.alloc w _ = W1 at GX BX YX ⊢
    have q0 : W1.cell? ⟨w.heap.size, 0, none⟩ = some (.int .i16 b.c) := cell_of_row W1 _ 0 _ _ _ BX.out
    have q1 : W1.cell? ⟨w.heap.size, 1, none⟩ = some (.int .u8 b.m0) := cell_of_row W1 _ 1 _ _ _ BX.out
    have q2 : W1.cell? ⟨w.heap.size, 2, none⟩ = some (.int .u8 b.m1) := cell_of_row W1 _ 2 _ _ _ BX.out
    have q3 : W1.cell? ⟨w.heap.size, 3, none⟩ = some (.int .u8 b.m2) := cell_of_row W1 _ 3 _ _ _ BX.out
    have q4 : W1.cell? ⟨w.heap.size, 4, none⟩ = some (.int .i16 b.v) := cell_of_row W1 _ 4 _ _ _ BX.out
    have q5 : W1.cell? ⟨w.heap.size, 5, none⟩ = some (.int .i16 b.wi) := cell_of_row W1 _ 5 _ _ _ BX.out
    have q6 : W1.cell? ⟨w.heap.size, 6, none⟩ = some (.int .i16 b.hi) := cell_of_row W1 _ 6 _ _ _ BX.out
    have q7 : W1.cell? ⟨w.heap.size, 7, none⟩ = some (.int .i16 b.we) := cell_of_row W1 _ 7 _ _ _ BX.out
    go_wp2_with fail
    refine (VB.out _).mono ?_
    rintro e w2 ⟨rfl, h2⟩
    have hbx := (h2.block _ YX.out).trans BX.out
    have G2 := Lib.hid (bnext GX.out h2)
    clear q0 q1 q2 q3 q4 q5 q6 q7 h2
    have q0 : w2.cell? ⟨w.heap.size, 0, none⟩ = some (.int .i16 b.c) := cell_of_row w2 _ 0 _ _ _ hbx
    have q1 : w2.cell? ⟨w.heap.size, 1, none⟩ = some (.int .u8 b.m0) := cell_of_row w2 _ 1 _ _ _ hbx
    have q2 : w2.cell? ⟨w.heap.size, 2, none⟩ = some (.int .u8 b.m1) := cell_of_row w2 _ 2 _ _ _ hbx
    have q3 : w2.cell? ⟨w.heap.size, 3, none⟩ = some (.int .u8 b.m2) := cell_of_row w2 _ 3 _ _ _ hbx
    have q4 : w2.cell? ⟨w.heap.size, 4, none⟩ = some (.int .i16 b.v) := cell_of_row w2 _ 4 _ _ _ hbx
    have q5 : w2.cell? ⟨w.heap.size, 5, none⟩ = some (.int .i16 b.wi) := cell_of_row w2 _ 5 _ _ _ hbx
    have q6 : w2.cell? ⟨w.heap.size, 6, none⟩ = some (.int .i16 b.hi) := cell_of_row w2 _ 6 _ _ _ hbx
    have q7 : w2.cell? ⟨w.heap.size, 7, none⟩ = some (.int .i16 b.we) := cell_of_row w2 _ 7 _ _ _ hbx
    clear hbx
    go_wp2_with fail
    refine (LT.out _).mono ?_
    rintro e w3 ⟨rfl, h3⟩
    clear q0 q1 q2 q3 q4 q5 q6 q7
    go_wp2
    go_ret
    exact ⟨by rw [E.out]; rfl, bnext G2.out h3⟩
end Go.Proofs.Ytimojjkblofhnaa
