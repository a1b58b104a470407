/- The law of PegFor, walked. No condition. -/
import Derived.Test.YtjfhpgomaahgoaaPegFor
namespace Go.Proofs.Ytjfhpgomaahgoaa
set_option linter.unusedSimpArgs false
set_option linter.unusedVariables false
set_option maxRecDepth 100000
open Go.RowKit

set_option maxHeartbeats 8000000 in
theorem walkPegFor (p0 : Pg) (wf0 : p0.Wf) (a1 : Int) (wf1 : (Lit.int .i64 a1).wf = true) (w : World)  :
    Calls Try.prog 5 #[.agg #[.int .i16 p0.lo, .int .i16 p0.st, .int .i16 p0.bo], .int .i64 a1] w fun e w' => e = .returned (.bool true) ∧ Below w.heap.size w w' := by
  have WF0 := Lib.hid wf0
  clear wf0 
  have bi1 := bounds_i64 wf1
  have bi1l := bi1.1
  have bi1h := bi1.2
  clear wf1 bi1
  have A0 := Lib.hid (PegIn.new w p0 24)
  have Z0 := Lib.hid (show w.heap.size < (World.alloc w (.cells #[.int .i16 p0.lo, .int .i16 p0.st, .int .i16 p0.bo] 24)).heap.size by simp)
  have h1 : Below w.heap.size w (World.alloc w (.cells #[.int .i16 p0.lo, .int .i16 p0.st, .int .i16 p0.bo] 24)) := by go_grown
  go_enter Try.func5, Try.ntmps5
  go_wp2_with fail
  generalize World.alloc _ _ = w1 at A0 Z0 h1 ⊢
  refine (toPegs_any p0 _).mono ?_
  rintro e w2 ⟨rfl, h2⟩
  go_wp2_with fail
  refine (specPegFor_any p0 WF0.out a1 _ bi1l bi1h).mono ?_
  rintro e w3 ⟨rfl, h3⟩
  obtain ⟨p0_0, p0_1, p0_2⟩ := A0.out.below (bnext h2 h3) Z0.out
  go_wp2_with fail
  refine (toPegs_any p0 _).mono ?_
  rintro e w4 ⟨rfl, h4⟩
  clear p0_0 p0_1 p0_2
  go_wp2_with fail
  refine (pegFor_any p0 WF0.out a1 _ bi1l bi1h).mono ?_
  rintro e w5 ⟨rfl, h5⟩
  generalize pfV p0 a1 = r0
  generalize pfC p0 a1 = r1
  go_wp2
  go_ret
  exact ⟨rfl, (bnext (bnext (bnext (bnext h1 h2) h3) h4) h5)⟩

end Go.Proofs.Ytjfhpgomaahgoaa
