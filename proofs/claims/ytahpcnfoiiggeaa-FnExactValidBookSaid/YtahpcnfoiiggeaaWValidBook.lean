/- The law of ValidBook, walked. No condition. -/
import Derived.Test.YtahpcnfoiiggeaaValid2
namespace Go.Proofs.Ytahpcnfoiiggeaa
set_option linter.unusedSimpArgs false
set_option linter.unusedVariables false
open Go.RowKit

set_option maxHeartbeats 1000000 in
theorem walkValidBook (b : Bk) (hb : b.Wf) (w : World) :
    Calls Try.prog 4 #[.agg #[.int .i16 b.c, .int .u8 b.m0, .int .u8 b.m1, .int .u8 b.m2, .int .i16 b.v, .int .i16 b.wi, .int .i16 b.hi, .int .i16 b.we]] w fun e w' => e = .returned (.bool true) ∧ Below w.heap.size w w' := by
  cases hv : bookB b
  all_goals
    have H := Lib.hid hv
    clear hv
    go_enter Try.func4, Try.ntmps4
    go_wp2_with fail
    refine (toBook_any b _).mono ?_
    rintro e w1 ⟨rfl, h1⟩
    obtain ⟨c1, f1⟩ := bcell h1
    go_wp2_with fail
    refine (specValidBook_any b hb _).mono ?_
    rintro e w2 ⟨rfl, h2⟩
    have g2 := bnext h1 h2
    obtain ⟨c2, f2⟩ := bcell g2
    rw [H.out]
    go_wp2_with fail
    refine (toBook_any b _).mono ?_
    rintro e w3 ⟨rfl, h3⟩
    have g3 := bnext g2 h3
    go_wp2_with fail
    refine (validBook_any b _).mono ?_
    rintro e w4 ⟨rfl, rfl⟩
    rw [H.out]
    go_wp2
    go_ret
    exact ⟨rfl, (bnew _ g3).alloc (by have := g3.size; simp at this; omega) _⟩
end Go.Proofs.Ytahpcnfoiiggeaa
