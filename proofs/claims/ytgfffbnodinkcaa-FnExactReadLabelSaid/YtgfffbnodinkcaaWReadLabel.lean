/- The law of ReadLabel, walked. No condition. -/
import Derived.Test.YtgfffbnodinkcaaLabZ2
namespace Go.Proofs.Ytgfffbnodinkcaa
set_option linter.unusedSimpArgs false
set_option linter.unusedVariables false
set_option maxRecDepth 100000
open Go.RowKit

set_option maxHeartbeats 1000000 in
theorem walkReadLabel (s : ByteArray) (hm : s.size ≤ maxLen) (w : World) :
    Calls Try.prog 9 #[.string s] w fun e w' => e = .returned (.bool true) ∧ Below w.heap.size w w' := by
  have SP := Lib.hid (fun W => specReadLabel_any s hm W)
  have IM := Lib.hid (fun W => readLabel_any s hm W)
  generalize rdC s = r1 at *
  generalize rdM s = r2 at *
  generalize rdV s = r3 at *
  generalize rdE s = r4 at *
  by_cases hs : s.size ≤ 1048576
  · have es : ¬ ((1048576 : Int) < (s.size : Int)) := by omega
    go_enter Try.func9, Try.ntmps9
    go_wp2_with fail
    refine (SP.out _).mono ?_
    rintro e w2 ⟨rfl, h2⟩
    go_wp2_with fail
    refine (IM.out _).mono ?_
    rintro e w4 ⟨rfl, h4⟩
    have g4 := bnext h2 h4
    go_wp2
    go_ret
    exact ⟨rfl, g4⟩
  · have es : (1048576 : Int) < (s.size : Int) := by omega
    go_enter Try.func9, Try.ntmps9
    go_wp2
    go_ret
    exact ⟨rfl, Below.refl _ _⟩
end Go.Proofs.Ytgfffbnodinkcaa
