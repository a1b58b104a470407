/- The law of PassesOf, walked. No condition. -/
import Derived.Test.YtjfhpgomaahgoabPasI
import Derived.Test.YtjfhpgomaahgoabToBookS
import Derived.Test.YtjfhpgomaahgoabQuiet
import Derived.Deep.RegionHeld3
namespace Go.Proofs.Ytjfhpgomaahgoab
set_option linter.unusedSimpArgs false
set_option linter.unusedVariables false
set_option maxRecDepth 100000
open Go.RowKit

set_option maxHeartbeats 8000000 in
theorem walkPassesOf (v0 : Value) (xs0 : List Bk) (wf0 : ∀ b ∈ xs0, b.Wf) (w : World) (sl0 : SliceOf w v0 xs0) (ml0 : xs0.length ≤ maxLen) :
    Calls Try.prog 7 #[v0] w fun e w' => e = .returned (.bool true) ∧ Below w.heap.size w w' := by
  have mx0 : xs0.length ≤ 9223372036854775807 := by unfold maxLen at ml0; omega
  have SL0 := Lib.hid sl0
  have WF0 := Lib.hid wf0
  have ML0 := Lib.hid ml0
  obtain ⟨A0, k0, rfl, -⟩ := sl0
  clear wf0 ml0
  by_cases hn0 : (xs0.length : Int) ≤ 1048576
  · have e0 : ¬ (1048576 - (xs0.length : Int) < 0) := by omega
    go_enter Try.func7, Try.ntmps7
    go_wp2_with fail
    refine (szBookS_left _ _ _ _ _ mx0 (by omega) (by omega)).mono ?_
    rintro e w' ⟨rfl, rfl⟩
    rw [if_pos (by omega)]
    replace hn0 : xs0.length ≤ 1048576 := by omega
    go_wp2_with fail
    refine (toBookS_any _ xs0 _ SL0.out hn0).mono ?_
    rintro e w1 ⟨g0, rfl, hg0, hr0, h1⟩
    have R0 := Lib.hid (Row.slice hr0)
    clear hr0 hg0
    go_wp2_with fail
    refine (specPassesOf_any _ xs0 WF0.out _ R0.out ML0.out).mono ?_
    rintro e w2 ⟨rfl, h2⟩
    go_wp2_with fail
    refine (toBookS_any _ xs0 _ (SL0.out.below (bnext h1 h2)) hn0).mono ?_
    rintro e w3 ⟨g1, rfl, hg1, hr1, h3⟩
    have R1 := Lib.hid (Row.slice hr1)
    clear hr1 hg1
    go_wp2_with fail
    refine (passesOf_any _ xs0 WF0.out _ R1.out ML0.out).mono ?_
    rintro e w4 ⟨rfl, h4⟩
    generalize pcV xs0 = r0
    generalize pcC xs0 = r1
    go_wp2_with fail
    refine (toBookS_any _ xs0 _ (SL0.out.below (bnext (bnext (bnext h1 h2) h3) h4)) hn0).mono ?_
    rintro e w5 ⟨g2, rfl, hg2, hr2, h5⟩
    have R2 := Lib.hid (Row.slice hr2)
    clear hr2 hg2
    go_wp2_with fail
    refine (eqBookS_same _ _ xs0 _ (R1.out.below (bnext h4 h5)) R2.out ML0.out).mono ?_
    rintro e w6 ⟨rfl, h6⟩
    go_wp2
    go_ret
    exact ⟨rfl, (bnext (bnext (bnext (bnext (bnext h1 h2) h3) h4) h5) h6)⟩
  · have e0 : (1048576 - (xs0.length : Int) < 0) := by omega
    go_enter Try.func7, Try.ntmps7
    go_wp2_with fail
    refine (szBookS_left _ _ _ _ _ mx0 (by omega) (by omega)).mono ?_
    rintro e w' ⟨rfl, rfl⟩
    rw [if_neg (by omega)]
    go_wp2
    go_ret
    exact ⟨rfl, (Below.refl _ _)⟩

end Go.Proofs.Ytjfhpgomaahgoab
