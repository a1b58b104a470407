/- Orders: the law's copies, and which orders are valid: the model's functions and the program's, contracts. Condition: the order is no longer than a slice can be (the copies: than the law tests). -/
import Derived.Test.YtecpddkbbfpeeaaOrd
import Derived.Deep.Quiet
namespace Go.Proofs.Ytecpddkbbfpeeaa
set_option linter.unusedSimpArgs false
set_option linter.unusedVariables false
set_option maxRecDepth 100000
open Go.RowKit

theorem infoInt8 : (Try.prog.info? 65).map (fun i => (i.zero, i.size, i.bytes)) = some (some (.int .i8 0), 1, 1) := by kernel_rfl

set_option maxHeartbeats 400000 in
theorem l01Field_any (z : Int) (w : World) (h0 : -128 ≤ z) (h1 : z ≤ 127) :
    Calls Try.prog 66 #[.int .i8 z] w fun e w' => e = .returned (.int .i8 (fieldOf z)) ∧ w = w' := by
  by_cases h : z < 0
  · by_cases h2 : z = -128
    · subst h2
      go_enter Try.func66, Try.ntmps66
      go_wp2
      go_ret
      exact ⟨rfl, rfl⟩
    · have e : fieldOf z = -z := by unfold fieldOf; rw [if_pos h, if_neg h2]
      have E := Lib.hid e
      clear e
      have hw : IntKind.i8.wrap (-z) = -z := IntWalk.i8_in _ (by omega)
      go_enter Try.func66, Try.ntmps66
      go_wp2
      go_ret
      exact ⟨by rw [E.out]; rfl, rfl⟩
  · have E := Lib.hid (show fieldOf z = z by unfold fieldOf; rw [if_neg h])
    go_enter Try.func66, Try.ntmps66
    go_wp2
    go_ret
    exact ⟨by rw [E.out]; rfl, rfl⟩
end Go.Proofs.Ytecpddkbbfpeeaa
