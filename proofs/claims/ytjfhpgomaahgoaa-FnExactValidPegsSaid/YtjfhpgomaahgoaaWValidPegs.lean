/- The law of ValidPegs, walked. No condition. -/
import Derived.Test.YtjfhpgomaahgoaaPegV
namespace Go.Proofs.Ytjfhpgomaahgoaa
set_option linter.unusedSimpArgs false
set_option linter.unusedVariables false
set_option maxRecDepth 100000
open Go.RowKit

set_option maxHeartbeats 8000000 in
theorem walkValidPegs (p0 : Pg) (wf0 : p0.Wf) (w : World)  :
    Calls Try.prog 3 #[.agg #[.int .i16 p0.lo, .int .i16 p0.st, .int .i16 p0.bo]] w fun e w' => e = .returned (.bool true) ∧ Below w.heap.size w w' := by
  have WF0 := Lib.hid wf0
  clear wf0 
  have A0 := Lib.hid (PegIn.new w p0 24)
  have Z0 := Lib.hid (show w.heap.size < (World.alloc w (.cells #[.int .i16 p0.lo, .int .i16 p0.st, .int .i16 p0.bo] 24)).heap.size by simp)
  have h1 : Below w.heap.size w (World.alloc w (.cells #[.int .i16 p0.lo, .int .i16 p0.st, .int .i16 p0.bo] 24)) := by go_grown
  go_enter Try.func3, Try.ntmps3
  go_wp2_with fail
  generalize World.alloc _ _ = w1 at A0 Z0 h1 ⊢
  refine (toPegs_any p0 _).mono ?_
  rintro e w2 ⟨rfl, h2⟩
  go_wp2_with fail
  refine (specValidPegs_any p0 WF0.out _).mono ?_
  rintro e w3 ⟨rfl, h3⟩
  obtain ⟨p0_0, p0_1, p0_2⟩ := A0.out.below (bnext h2 h3) Z0.out
  go_wp2_with fail
  refine (toPegs_any p0 _).mono ?_
  rintro e w4 ⟨rfl, h4⟩
  clear p0_0 p0_1 p0_2
  go_wp2_with fail
  refine (validPegs_any p0 WF0.out _).mono ?_
  rintro e w5 ⟨rfl, h5⟩
  generalize pegsB p0 = r0
  go_wp2
  go_ret
  exact ⟨rfl, (bnext (bnext (bnext (bnext h1 h2) h3) h4) h5)⟩

end Go.Proofs.Ytjfhpgomaahgoaa
