/- The law of CompareBy, walked. No condition. -/
import Derived.Test.YtahpcnfoiiggeaaCb
import Derived.Deep.RegionHeld3
namespace Go.Proofs.Ytahpcnfoiiggeaa
set_option linter.unusedSimpArgs false
set_option linter.unusedVariables false
open Go.RowKit

theorem heldBelow {W W1 W2 : World} (h : Below W.heap.size W W1) (k : Below W1.heap.size W1 W2) : Below W.heap.size W W2 := bnext h k

set_option maxHeartbeats 4000000 in
theorem walkCompareBy (v : Value) (zs : List Int) (hz : ∀ z ∈ zs, -128 ≤ z ∧ z ≤ 127) (a : Bk) (wa : a.Wf) (b : Bk) (wb : b.Wf) (w : World) (sl : IntsOf .i8 w v zs) (ml : zs.length ≤ maxLen) :
    Calls Try.prog 8 #[v, .agg #[.int .i16 a.c, .int .u8 a.m0, .int .u8 a.m1, .int .u8 a.m2, .int .i16 a.v, .int .i16 a.wi, .int .i16 a.hi, .int .i16 a.we], .agg #[.int .i16 b.c, .int .u8 b.m0, .int .u8 b.m1, .int .u8 b.m2, .int .i16 b.v, .int .i16 b.wi, .int .i16 b.hi, .int .i16 b.we]] w fun e w' => e = .returned (.bool true) ∧ Below w.heap.size w w' := by
  have mx : zs.length ≤ 9223372036854775807 := by unfold maxLen at ml; omega
  have SL := Lib.hid sl
  have HZ := Lib.hid hz
  have WA := Lib.hid wa
  have WB := Lib.hid wb
  clear hz wa wb
  obtain ⟨A, c, rfl, -⟩ := sl
  by_cases hn : zs.length ≤ 1048576
  · have e0 : ¬ ((1048576 : Int) < (zs.length : Int)) := by omega
    go_enter Try.func8, Try.ntmps8
    go_wp2
    generalize hw0 : World.alloc _ _ = W
    have p0 : W.cell? ⟨w.heap.size, 0, none⟩ = some (.int .i16 a.c) := by rw [← hw0]; clear hw0; go_simp
    have q0 : W.cell? ⟨w.heap.size + 1, 0, none⟩ = some (.int .i16 b.c) := by rw [← hw0]; clear hw0; go_simp
    have p1 : W.cell? ⟨w.heap.size, 1, none⟩ = some (.int .u8 a.m0) := by rw [← hw0]; clear hw0; go_simp
    have q1 : W.cell? ⟨w.heap.size + 1, 1, none⟩ = some (.int .u8 b.m0) := by rw [← hw0]; clear hw0; go_simp
    have p2 : W.cell? ⟨w.heap.size, 2, none⟩ = some (.int .u8 a.m1) := by rw [← hw0]; clear hw0; go_simp
    have q2 : W.cell? ⟨w.heap.size + 1, 2, none⟩ = some (.int .u8 b.m1) := by rw [← hw0]; clear hw0; go_simp
    have p3 : W.cell? ⟨w.heap.size, 3, none⟩ = some (.int .u8 a.m2) := by rw [← hw0]; clear hw0; go_simp
    have q3 : W.cell? ⟨w.heap.size + 1, 3, none⟩ = some (.int .u8 b.m2) := by rw [← hw0]; clear hw0; go_simp
    have p4 : W.cell? ⟨w.heap.size, 4, none⟩ = some (.int .i16 a.v) := by rw [← hw0]; clear hw0; go_simp
    have q4 : W.cell? ⟨w.heap.size + 1, 4, none⟩ = some (.int .i16 b.v) := by rw [← hw0]; clear hw0; go_simp
    have p5 : W.cell? ⟨w.heap.size, 5, none⟩ = some (.int .i16 a.wi) := by rw [← hw0]; clear hw0; go_simp
    have q5 : W.cell? ⟨w.heap.size + 1, 5, none⟩ = some (.int .i16 b.wi) := by rw [← hw0]; clear hw0; go_simp
    have p6 : W.cell? ⟨w.heap.size, 6, none⟩ = some (.int .i16 a.hi) := by rw [← hw0]; clear hw0; go_simp
    have q6 : W.cell? ⟨w.heap.size + 1, 6, none⟩ = some (.int .i16 b.hi) := by rw [← hw0]; clear hw0; go_simp
    have p7 : W.cell? ⟨w.heap.size, 7, none⟩ = some (.int .i16 a.we) := by rw [← hw0]; clear hw0; go_simp
    have q7 : W.cell? ⟨w.heap.size + 1, 7, none⟩ = some (.int .i16 b.we) := by rw [← hw0]; clear hw0; go_simp
    have z0 : w.heap.size < W.heap.size := by rw [← hw0]; clear hw0; simp; omega
    have z1 : w.heap.size + 1 < W.heap.size := by rw [← hw0]; clear hw0; simp
    have g0 : Below w.heap.size w W := by rw [← hw0]; clear hw0; go_grown
    clear hw0
    have b0 : Below W.heap.size W W.drew := (Below.refl _ _).drew
    have HK := Lib.hid (show ∀ W1, Below W.heap.size W W1 → (fun W1 => Below W.heap.size W W1 ∧ W1.cell? ⟨w.heap.size, 0, none⟩ = some (.int .i16 a.c) ∧ W1.cell? ⟨w.heap.size, 1, none⟩ = some (.int .u8 a.m0) ∧ W1.cell? ⟨w.heap.size, 2, none⟩ = some (.int .u8 a.m1) ∧ W1.cell? ⟨w.heap.size, 3, none⟩ = some (.int .u8 a.m2) ∧ W1.cell? ⟨w.heap.size, 4, none⟩ = some (.int .i16 a.v) ∧ W1.cell? ⟨w.heap.size, 5, none⟩ = some (.int .i16 a.wi) ∧ W1.cell? ⟨w.heap.size, 6, none⟩ = some (.int .i16 a.hi) ∧ W1.cell? ⟨w.heap.size, 7, none⟩ = some (.int .i16 a.we) ∧ W1.cell? ⟨w.heap.size + 1, 0, none⟩ = some (.int .i16 b.c) ∧ W1.cell? ⟨w.heap.size + 1, 1, none⟩ = some (.int .u8 b.m0) ∧ W1.cell? ⟨w.heap.size + 1, 2, none⟩ = some (.int .u8 b.m1) ∧ W1.cell? ⟨w.heap.size + 1, 3, none⟩ = some (.int .u8 b.m2) ∧ W1.cell? ⟨w.heap.size + 1, 4, none⟩ = some (.int .i16 b.v) ∧ W1.cell? ⟨w.heap.size + 1, 5, none⟩ = some (.int .i16 b.wi) ∧ W1.cell? ⟨w.heap.size + 1, 6, none⟩ = some (.int .i16 b.hi) ∧ W1.cell? ⟨w.heap.size + 1, 7, none⟩ = some (.int .i16 b.we)) W1 from fun W1 hB => ⟨hB, (hB.cell (p := ⟨w.heap.size, 0, none⟩) z0).trans p0, (hB.cell (p := ⟨w.heap.size, 1, none⟩) z0).trans p1, (hB.cell (p := ⟨w.heap.size, 2, none⟩) z0).trans p2, (hB.cell (p := ⟨w.heap.size, 3, none⟩) z0).trans p3, (hB.cell (p := ⟨w.heap.size, 4, none⟩) z0).trans p4, (hB.cell (p := ⟨w.heap.size, 5, none⟩) z0).trans p5, (hB.cell (p := ⟨w.heap.size, 6, none⟩) z0).trans p6, (hB.cell (p := ⟨w.heap.size, 7, none⟩) z0).trans p7, (hB.cell (p := ⟨w.heap.size + 1, 0, none⟩) z1).trans q0, (hB.cell (p := ⟨w.heap.size + 1, 1, none⟩) z1).trans q1, (hB.cell (p := ⟨w.heap.size + 1, 2, none⟩) z1).trans q2, (hB.cell (p := ⟨w.heap.size + 1, 3, none⟩) z1).trans q3, (hB.cell (p := ⟨w.heap.size + 1, 4, none⟩) z1).trans q4, (hB.cell (p := ⟨w.heap.size + 1, 5, none⟩) z1).trans q5, (hB.cell (p := ⟨w.heap.size + 1, 6, none⟩) z1).trans q6, (hB.cell (p := ⟨w.heap.size + 1, 7, none⟩) z1).trans q7⟩)
    clear p0 p1 p2 p3 p4 p5 p6 p7 q0 q1 q2 q3 q4 q5 q6 q7
    go_region_held3 (fun W1 => Below W.heap.size W W1 ∧ W1.cell? ⟨w.heap.size, 0, none⟩ = some (.int .i16 a.c) ∧ W1.cell? ⟨w.heap.size, 1, none⟩ = some (.int .u8 a.m0) ∧ W1.cell? ⟨w.heap.size, 2, none⟩ = some (.int .u8 a.m1) ∧ W1.cell? ⟨w.heap.size, 3, none⟩ = some (.int .u8 a.m2) ∧ W1.cell? ⟨w.heap.size, 4, none⟩ = some (.int .i16 a.v) ∧ W1.cell? ⟨w.heap.size, 5, none⟩ = some (.int .i16 a.wi) ∧ W1.cell? ⟨w.heap.size, 6, none⟩ = some (.int .i16 a.hi) ∧ W1.cell? ⟨w.heap.size, 7, none⟩ = some (.int .i16 a.we) ∧ W1.cell? ⟨w.heap.size + 1, 0, none⟩ = some (.int .i16 b.c) ∧ W1.cell? ⟨w.heap.size + 1, 1, none⟩ = some (.int .u8 b.m0) ∧ W1.cell? ⟨w.heap.size + 1, 2, none⟩ = some (.int .u8 b.m1) ∧ W1.cell? ⟨w.heap.size + 1, 3, none⟩ = some (.int .u8 b.m2) ∧ W1.cell? ⟨w.heap.size + 1, 4, none⟩ = some (.int .i16 b.v) ∧ W1.cell? ⟨w.heap.size + 1, 5, none⟩ = some (.int .i16 b.wi) ∧ W1.cell? ⟨w.heap.size + 1, 6, none⟩ = some (.int .i16 b.hi) ∧ W1.cell? ⟨w.heap.size + 1, 7, none⟩ = some (.int .i16 b.we)) (first | exact HK.out _ b0 | (refine HK.out _ (bnext ?_ h1); exact And.left (by assumption))) (first
      | (go_at_call 26; refine (toInt8S_any _ zs _ (SL.out.below (bnext g0 (And.left (by assumption)))) hn).mono ?_; rintro e w' ⟨g, rfl, hg, hr, h1⟩; have HR := Lib.hid (fun W2 (hB : Below w'.heap.size w' W2) => IntsOf.below (IRow.slice hr) hB); clear hr)
      | (go_at_call 16; with_reducible refine (toBook_any a _).mono ?_; rintro e w' ⟨rfl, h1⟩)
      | (go_at_call 16; with_reducible refine (toBook_any b _).mono ?_; rintro e w' ⟨rfl, h1⟩)
      | (go_at_call 29; refine (specCompareBy_any _ zs HZ.out a b WA.out WB.out _ (by first | exact HR.out _ (Below.refl _ _) | exact HR.out _ h1 | exact HR.out _ (bnext (by assumption) h1)) ml).mono ?_; rintro e w9 ⟨rfl, h1⟩))
    all_goals
      have g9 : Below W.heap.size W w9 := And.left (by assumption)
      have gg := bnext g0 g9
      obtain ⟨-, p0, p1, p2, p3, p4, p5, p6, p7, q0, q1, q2, q3, q4, q5, q6, q7⟩ := HK.out w9 g9
      clear HR HK
      go_wp2_with fail
      refine (toInt8S_any _ zs _ (SL.out.below gg) hn).mono ?_
      rintro e w10 ⟨gx, rfl, hgx, hrx, h10⟩
      have X := Lib.hid (IRow.slice hrx)
      clear hrx hgx
      have zz0 := Nat.lt_of_lt_of_le z0 (bnext g9 h10).size
      have zz1 := Nat.lt_of_lt_of_le z1 (bnext g9 h10).size
      have y0 := Nat.lt_of_lt_of_le z0 g9.size
      have y1 := Nat.lt_of_lt_of_le z1 g9.size
      have p0q := belowBy_cell zz0 ((h10.cell (p := ⟨w.heap.size, 0, none⟩) y0).trans p0); have q0q := belowBy_cell zz1 ((h10.cell (p := ⟨w.heap.size + 1, 0, none⟩) y1).trans q0)
      have p1q := belowBy_cell zz0 ((h10.cell (p := ⟨w.heap.size, 1, none⟩) y0).trans p1); have q1q := belowBy_cell zz1 ((h10.cell (p := ⟨w.heap.size + 1, 1, none⟩) y1).trans q1)
      have p2q := belowBy_cell zz0 ((h10.cell (p := ⟨w.heap.size, 2, none⟩) y0).trans p2); have q2q := belowBy_cell zz1 ((h10.cell (p := ⟨w.heap.size + 1, 2, none⟩) y1).trans q2)
      have p3q := belowBy_cell zz0 ((h10.cell (p := ⟨w.heap.size, 3, none⟩) y0).trans p3); have q3q := belowBy_cell zz1 ((h10.cell (p := ⟨w.heap.size + 1, 3, none⟩) y1).trans q3)
      have p4q := belowBy_cell zz0 ((h10.cell (p := ⟨w.heap.size, 4, none⟩) y0).trans p4); have q4q := belowBy_cell zz1 ((h10.cell (p := ⟨w.heap.size + 1, 4, none⟩) y1).trans q4)
      have p5q := belowBy_cell zz0 ((h10.cell (p := ⟨w.heap.size, 5, none⟩) y0).trans p5); have q5q := belowBy_cell zz1 ((h10.cell (p := ⟨w.heap.size + 1, 5, none⟩) y1).trans q5)
      have p6q := belowBy_cell zz0 ((h10.cell (p := ⟨w.heap.size, 6, none⟩) y0).trans p6); have q6q := belowBy_cell zz1 ((h10.cell (p := ⟨w.heap.size + 1, 6, none⟩) y1).trans q6)
      have p7q := belowBy_cell zz0 ((h10.cell (p := ⟨w.heap.size, 7, none⟩) y0).trans p7); have q7q := belowBy_cell zz1 ((h10.cell (p := ⟨w.heap.size + 1, 7, none⟩) y1).trans q7)
      clear p0 q0 p1 q1 p2 q2 p3 q3 p4 q4 p5 q5 p6 q6 p7 q7
      go_wp2
      refine wp_region_below (by kernel_rfl) (by kernel_rfl) ?_
      repeat (quiet_step ((first
        | (go_at_call 16; with_reducible exact calls_below (toBook_any a _))
        | (go_at_call 16; with_reducible exact calls_below (toBook_any b _))
        | (go_at_call 30; exact calls_below (compareBy_any _ zs HZ.out a b WA.out WB.out _ (X.out.below (BelowBy.h _)) ml)))))
      refine wpQuiet_nil ?_
      rintro _ ⟨⟨w11, h11⟩, rfl⟩
      clear p0q q0q p1q q1q p2q q2q p3q q3q p4q q4q p5q q5q p6q q6q p7q q7q
      generalize cbVal zs a b = r0
      generalize cbCode zs a b = r1
      go_wp2_with fail
      refine (toInt8S_any _ zs _ (SL.out.below (bnext (bnext gg h10) h11)) hn).mono ?_
      rintro e w12 ⟨gy, rfl, hgy, hry, h12⟩
      have Y := Lib.hid (IRow.slice hry)
      clear hry hgy
      go_wp2_with fail
      refine (eqInt8S_same _ _ zs _ (X.out.below (bnext h11 h12)) Y.out ml).mono ?_
      rintro e w13 ⟨rfl, h13⟩
      go_wp2
      go_ret
      exact ⟨rfl, bnext (bnext (bnext (bnext gg h10) h11) h12) h13⟩
  · have e0 : (1048576 : Int) < (zs.length : Int) := by omega
    go_enter Try.func8, Try.ntmps8
    go_wp2
    go_ret
    exact ⟨rfl, by go_grown⟩

end Go.Proofs.Ytahpcnfoiiggeaa
