/- The numbers of a field, by the model: contract. No condition. -/
import Derived.Test.YtecpddkbbfpeeaaCmp
import Derived.Test.YtecpddkbbfpeeaaQuiet
import Derived.StillTailTactics
namespace Go.Proofs.Ytecpddkbbfpeeaa
set_option linter.unusedSimpArgs false
set_option linter.unusedVariables false
set_option maxRecDepth 100000
open Go.RowKit

theorem six (f : Int) : f = 1 ∨ f = 2 ∨ f = 3 ∨ f = 4 ∨ f = 5 ∨ (f ≠ 1 ∧ f ≠ 2 ∧ f ≠ 3 ∧ f ≠ 4 ∧ f ≠ 5) := by omega

set_option maxHeartbeats 2000000 in
theorem l01Numbers_any (b : Bk) (hb : b.Wf) (g o : Nat) (f : Int) (w : World) (h0 : w.cell? ⟨g, o, none⟩ = some (.int .i16 b.c)) (h1 : w.cell? ⟨g, o + 1, none⟩ = some (.int .u8 b.m0)) (h2 : w.cell? ⟨g, o + 2, none⟩ = some (.int .u8 b.m1)) (h3 : w.cell? ⟨g, o + 3, none⟩ = some (.int .u8 b.m2))
    (h4 : w.cell? ⟨g, o + 4, none⟩ = some (.int .i16 b.v)) (h5 : w.cell? ⟨g, o + 5, none⟩ = some (.int .i16 b.wi)) (h6 : w.cell? ⟨g, o + 6, none⟩ = some (.int .i16 b.hi)) (h7 : w.cell? ⟨g, o + 7, none⟩ = some (.int .i16 b.we)) (hg : g < w.heap.size) :
    Calls Try.prog 67 #[.pointer (some ⟨g, o, none⟩), .int .i8 f] w fun e w' => e = .returned (.agg #[.int .i64 (n0 f b), .int .i64 (n1 f b), .int .i64 (n2 f b)]) ∧ Below w.heap.size w w' := by
  obtain ⟨⟨c1, c2⟩, ⟨x1, x2⟩, ⟨y1, y2⟩, ⟨z1, z2⟩, ⟨v1, v2⟩, ⟨i1, i2⟩, ⟨j1, j2⟩, ⟨k1, k2⟩⟩ := hb
  rcases six f with rfl | rfl | rfl | rfl | rfl | ⟨e1, e2, e3, e4, e5⟩
  · go_enter Try.func67, Try.ntmps67
    go_wp2
    go_returns
    exact ⟨rfl, by go_grown⟩
  · go_enter Try.func67, Try.ntmps67
    go_wp2
    have q1 : (w.alloc (.cells #[.int .i64 0, .int .i64 0, .int .i64 0] 36)).cell? ⟨g, o + 1, none⟩ = some (.int .u8 b.m0) := by go_simp
    have q2 : (w.alloc (.cells #[.int .i64 0, .int .i64 0, .int .i64 0] 36)).cell? ⟨g, o + 2, none⟩ = some (.int .u8 b.m1) := by go_simp
    have q3 : (w.alloc (.cells #[.int .i64 0, .int .i64 0, .int .i64 0] 36)).cell? ⟨g, o + 3, none⟩ = some (.int .u8 b.m2) := by go_simp
    have r0 : (w.alloc (.cells #[.int .i64 0, .int .i64 0, .int .i64 0] 36)).cell? ⟨w.heap.size, 0, none⟩ = some (.int .i64 0) := by go_simp
    have r1 : (w.alloc (.cells #[.int .i64 0, .int .i64 0, .int .i64 0] 36)).cell? ⟨w.heap.size, 1, none⟩ = some (.int .i64 0) := by go_simp
    have r2 : (w.alloc (.cells #[.int .i64 0, .int .i64 0, .int .i64 0] 36)).cell? ⟨w.heap.size, 2, none⟩ = some (.int .i64 0) := by go_simp
    have fz : ∀ i, (w.alloc (.cells #[.int .i64 0, .int .i64 0, .int .i64 0] 36)).frozen? ⟨w.heap.size, i, none⟩ = false := fun i => by go_simp
    have hb0 : Below w.heap.size w (w.alloc (.cells #[.int .i64 0, .int .i64 0, .int .i64 0] 36)) := (Below.refl _ _).alloc (Nat.le_refl _) _
    clear h0 h1 h2 h3 h4 h5 h6 h7
    generalize hW : w.alloc (.cells #[.int .i64 0, .int .i64 0, .int .i64 0] 36) = W at *
    have HW := Lib.hid hW
    clear hW
    have s0 : IntKind.i64.wrap b.m0 = b.m0 := IntWalk.i64_in _ (by omega)
    have s1 : IntKind.i64.wrap b.m1 = b.m1 := IntWalk.i64_in _ (by omega)
    have s2 : IntKind.i64.wrap b.m2 = b.m2 := IntWalk.i64_in _ (by omega)
    go_still_tail 19, (by kernel_rfl)
    clear s0 s1 s2
    change wpList _ _ _ _ _ W.drew
    obtain rfl := HW.out
    clear q1 q2 q3 r0 r1 r2 fz hb0
    go_wp2
    go_returns
    exact ⟨rfl, by go_grown⟩
  · go_enter Try.func67, Try.ntmps67
    go_wp2
    go_returns
    exact ⟨rfl, by go_grown⟩
  · go_enter Try.func67, Try.ntmps67
    go_wp2
    go_returns
    exact ⟨rfl, by go_grown⟩
  · go_enter Try.func67, Try.ntmps67
    go_wp2
    go_returns
    exact ⟨rfl, by go_grown⟩
  · have N0 := Lib.hid (show n0 f b = b.we by simp [n0, e1, e2, e3, e4, e5])
    have N1 := Lib.hid (show n1 f b = 0 by simp [n1, e2])
    have N2 := Lib.hid (show n2 f b = 0 by simp [n2, e2])
    have d1 : (f == 1) = false := by simpa using e1
    have d2 : (f == 2) = false := by simpa using e2
    have d3 : (f == 3) = false := by simpa using e3
    have d4 : (f == 4) = false := by simpa using e4
    have d5 : (f == 5) = false := by simpa using e5
    clear e1 e2 e3 e4 e5
    go_enter Try.func67, Try.ntmps67
    go_wp2
    go_returns
    exact ⟨by rw [N0.out, N1.out, N2.out], by go_grown⟩

end Go.Proofs.Ytecpddkbbfpeeaa
