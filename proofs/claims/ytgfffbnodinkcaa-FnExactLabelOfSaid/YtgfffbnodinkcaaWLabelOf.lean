/- The law of LabelOf, walked. No condition. -/
import Derived.Test.YtgfffbnodinkcaaLabL
namespace Go.Proofs.Ytgfffbnodinkcaa
set_option linter.unusedSimpArgs false
set_option linter.unusedVariables false
set_option maxRecDepth 100000
open Go.RowKit

set_option maxHeartbeats 1000000 in
theorem walkLabelOf (b : Bk) (hb : b.Wf) (w : World) :
    Calls Try.prog 7 #[.agg #[.int .i16 b.c, .int .u8 b.m0, .int .u8 b.m1, .int .u8 b.m2, .int .i16 b.v, .int .i16 b.wi, .int .i16 b.hi, .int .i16 b.we]] w fun e w' => e = .returned (.bool true) ∧ Below w.heap.size w w' := by
  have SP := Lib.hid (fun W => specLabelOf_any b hb W)
  have IM := Lib.hid (fun W => labelOf_any b hb W)
  generalize labR b = R at *
  go_enter Try.func7, Try.ntmps7
  go_wp2_with fail
  refine (toBook_any b _).mono ?_
  rintro e w1 ⟨rfl, h1⟩
  obtain ⟨c1, f1⟩ := bcell h1
  go_wp2_with fail
  refine (SP.out _).mono ?_
  rintro e w2 ⟨rfl, h2⟩
  have g2 := bnext h1 h2
  obtain ⟨c2, f2⟩ := bcell g2
  go_wp2_with fail
  refine (toBook_any b _).mono ?_
  rintro e w3 ⟨rfl, h3⟩
  have g3 := bnext g2 h3
  go_wp2_with fail
  refine (IM.out _).mono ?_
  rintro e w4 ⟨rfl, h4⟩
  have g4 := bnext g3 h4
  go_wp2
  go_ret
  exact ⟨rfl, bnew _ g4⟩
end Go.Proofs.Ytgfffbnodinkcaa
