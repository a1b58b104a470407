/- The law of ValidOrder, walked. No condition. -/
import Derived.Test.YtahpcnfoiiggeaaOrd3
namespace Go.Proofs.Ytahpcnfoiiggeaa
set_option linter.unusedSimpArgs false
set_option linter.unusedVariables false
open Go.RowKit

set_option maxHeartbeats 2000000 in
theorem walkValidOrder (v : Value) (zs : List Int) (hz : ∀ z ∈ zs, -128 ≤ z ∧ z ≤ 127) (w : World) (sl : IntsOf .i8 w v zs) (ml : zs.length ≤ maxLen) :
    Calls Try.prog 7 #[v] w fun e w' => e = .returned (.bool true) ∧ Below w.heap.size w w' := by
  have mx : zs.length ≤ 9223372036854775807 := by unfold maxLen at ml; omega
  have SL := Lib.hid sl
  have HZ := Lib.hid hz
  clear hz
  obtain ⟨A, c, rfl, -⟩ := sl
  by_cases hn : zs.length ≤ 1048576
  · have e0 : ¬ ((1048576 : Int) < (zs.length : Int)) := by omega
    go_enter Try.func7, Try.ntmps7
    go_wp2_with fail
    refine (toInt8S_any _ zs _ SL.out hn).mono ?_
    rintro e w1 ⟨g0_, rfl, hg0_, hr0_, h1⟩
    have R0 := Lib.hid hr0_
    clear hr0_ hg0_
    go_wp2_with fail
    refine (specValidOrder_any _ zs HZ.out _ R0.out.slice ml).mono ?_
    rintro e w2 ⟨rfl, h2⟩
    go_wp2_with fail
    refine (toInt8S_any _ zs _ (SL.out.below (bnext h1 h2)) hn).mono ?_
    rintro e w3 ⟨g1_, rfl, hg1_, hr1_, h3⟩
    have R1 := Lib.hid hr1_
    clear hr1_ hg1_
    go_wp2_with fail
    refine (validOrder_any _ zs HZ.out _ R1.out.slice ml).mono ?_
    rintro e w4 ⟨rfl, h4⟩
    generalize okO zs = r
    cases r
    all_goals
      go_wp2_with fail
      refine (toInt8S_any _ zs _ (SL.out.below (bnext (bnext (bnext h1 h2) h3) h4)) hn).mono ?_
      rintro e w5 ⟨g2_, rfl, hg2_, hr2_, h5⟩
      have R2 := Lib.hid hr2_
      clear hr2_ hg2_
      go_wp2_with fail
      refine (eqInt8S_same _ _ zs _ (R1.out.slice.below (bnext h4 h5)) R2.out.slice ml).mono ?_
      rintro e w6 ⟨rfl, h6⟩
      go_wp2
      go_ret
      exact ⟨rfl, (bnext (bnext (bnext (bnext (bnext h1 h2) h3) h4) h5) h6)⟩
  · have e0 : (1048576 : Int) < (zs.length : Int) := by omega
    go_enter Try.func7, Try.ntmps7
    go_wp2
    go_ret
    exact ⟨rfl, (Below.refl _ _)⟩

end Go.Proofs.Ytahpcnfoiiggeaa
