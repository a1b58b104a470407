/- Orders: the law's copies, and which orders are valid: the model's functions and the program's, contracts. Condition: the order is no longer than a slice can be (the copies: than the law tests). -/
import Derived.Test.YtkclobdealnkhaaDoorOrd
import Derived.Deep.Quiet
namespace Go.Proofs.YtkclobdealnkhaaDoor
set_option linter.unusedSimpArgs false
set_option linter.unusedVariables false
set_option maxRecDepth 100000
open Go.RowKit

theorem infoInt8 : (Tryd.prog.info? 136).map (fun i => (i.zero, i.size, i.bytes)) = some (some (.int .i8 0), 1, 1) := by kernel_rfl

set_option maxHeartbeats 400000 in
theorem l01Field_any (z : Int) (w : World) (h0 : -128 ≤ z) (h1 : z ≤ 127) :
    Calls Tryd.prog 98 #[.int .i8 z] w fun e w' => e = .returned (.int .i8 (fieldOf z)) ∧ w = w' := by
  by_cases h : z < 0
  · by_cases h2 : z = -128
    · subst h2
      go_enter Tryd.func98, Tryd.ntmps98
      go_wp2
      go_ret
      exact ⟨rfl, rfl⟩
    · have e : fieldOf z = -z := by unfold fieldOf; rw [if_pos h, if_neg h2]
      have E := Lib.hid e
      clear e
      have hw : IntKind.i8.wrap (-z) = -z := IntWalk.i8_in _ (by omega)
      go_enter Tryd.func98, Tryd.ntmps98
      go_wp2
      go_ret
      exact ⟨by rw [E.out]; rfl, rfl⟩
  · have E := Lib.hid (show fieldOf z = z by unfold fieldOf; rw [if_neg h])
    go_enter Tryd.func98, Tryd.ntmps98
    go_wp2
    go_ret
    exact ⟨by rw [E.out]; rfl, rfl⟩
set_option maxHeartbeats 400000 in
theorem withinInt_any (n low high : Int) (w : World) :
    Calls Tryd.prog 63 #[.int .i64 n, .int .i64 low, .int .i64 high] w fun e w' => e = .returned (.bool (inB n low high)) ∧ w = w' := by
  by_cases h1 : low ≤ n
  · by_cases h2 : n ≤ high
    · go_enter Tryd.func63, Tryd.ntmps63
      go_wp2
      go_ret
      exact ⟨by simp [inB, h1, h2], rfl⟩
    · go_enter Tryd.func63, Tryd.ntmps63
      go_wp2
      go_ret
      exact ⟨by simp [inB, h1, h2], rfl⟩
  · have h1' : n < low := by omega
    go_enter Tryd.func63, Tryd.ntmps63
    go_wp2
    go_ret
    exact ⟨by simp [inB, show ¬ low ≤ n from by omega], rfl⟩

end Go.Proofs.YtkclobdealnkhaaDoor
