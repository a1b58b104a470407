/- CheckLabel, by the model and by the program: contracts. No condition. -/
import Derived.Test.YtimojjkblofhnaaLabV
namespace Go.Proofs.Ytimojjkblofhnaa
set_option linter.unusedSimpArgs false
set_option linter.unusedVariables false
set_option maxRecDepth 100000
open Go.RowKit

theorem isB_no9 {T : ByteArray} (h9 : T.size ≠ 9) : isB T = false := by unfold isB; rw [decide_eq_false h9]; rfl
/-- What bookOfLabel returns of a book. -/
def bkR (T : ByteArray) : Bk := if T.size = 9 then bkT T else ⟨0, 0, 0, 0, 0, 0, 0, 0⟩
theorem bookOf_any (T : ByteArray) (hm : T.size ≤ maxLen) (w : World) :
    Calls Try.prog 23 #[.string T] w fun e w' => e = .returned (.tuple #[.agg #[.int .i16 (bkR T).c, .int .u8 (bkR T).m0, .int .u8 (bkR T).m1, .int .u8 (bkR T).m2, .int .i16 (bkR T).v, .int .i16 (bkR T).wi, .int .i16 (bkR T).hi, .int .i16 (bkR T).we], .bool (isB T)]) ∧ Below w.heap.size w w' := by
  by_cases h9 : T.size = 9
  · have E : bkR T = bkT T := by unfold bkR; rw [if_pos h9]
    rw [E, ← isP_isB T h9]
    exact bookOfLabel_any T h9 w
  · have E : bkR T = ⟨0, 0, 0, 0, 0, 0, 0, 0⟩ := by unfold bkR; rw [if_neg h9]
    rw [E, isB_no9 h9]
    exact bookOfLabel_none T h9 hm w
set_option maxHeartbeats 1000000 in
theorem checkLabel_any (T : ByteArray) (hm : T.size ≤ maxLen) (w : World) :
    Calls Try.prog 9 #[.string T] w fun e w' => e = .returned (.bool (isB T)) ∧ Below w.heap.size w w' := by
  have H := Lib.hid (fun W => bookOf_any T hm W)
  generalize isB T = r at *
  generalize bkR T = b at *
  go_enter Try.func9, Try.ntmps9
  go_wp2_with fail
  refine (H.out _).mono ?_
  rintro e w1 ⟨rfl, h1⟩
  have z1 := h1.size
  go_wp2
  go_ret
  exact ⟨rfl, h1.alloc z1 _⟩
end Go.Proofs.Ytimojjkblofhnaa
