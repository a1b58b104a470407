/- The law of LabelBound, walked. No condition. -/
import Derived.Test.YtboacgmmlficjaaLbS
import Derived.Test.YtboacgmmlficjaaLbI
import Derived.Test.YtboacgmmlficjaaToBookS
import Derived.Deep.RegionHeld3
namespace Go.Proofs.Ytboacgmmlficjaa
set_option linter.unusedSimpArgs false
set_option linter.unusedVariables false
set_option maxRecDepth 100000
open Go.RowKit

set_option maxHeartbeats 8000000 in
theorem walkLabelBound (v0 : Value) (xs0 : List Bk) (wf0 : ∀ b ∈ xs0, b.Wf) (v1 : Value) (zs1 : List Int) (wf1 : ∀ z ∈ zs1, (Lit.int .i64 z).wf = true) (w : World) (sl0 : SliceOf w v0 xs0) (ml0 : xs0.length ≤ maxLen) (sl1 : IntsOf .i64 w v1 zs1) (ml1 : zs1.length ≤ maxLen) :
    Calls Try.prog 3 #[v0, v1] w fun e w' => e = .returned (.bool true) ∧ Below w.heap.size w w' := by
  have mx0 : xs0.length ≤ 9223372036854775807 := by unfold maxLen at ml0; omega
  have SL0 := Lib.hid sl0
  have WF0 := Lib.hid wf0
  have ML0 := Lib.hid ml0
  obtain ⟨A0, k0, rfl, -⟩ := sl0
  have mx1 : zs1.length ≤ 9223372036854775807 := by unfold maxLen at ml1; omega
  have SL1 := Lib.hid sl1
  have WF1 := Lib.hid wf1
  have ML1 := Lib.hid ml1
  obtain ⟨A1, k1, rfl, -⟩ := sl1
  clear wf0 ml0 wf1 ml1
  by_cases hn1 : (zs1.length : Int) ≤ 1048576
  · have e1 : ¬ ((1048576 : Int) < (zs1.length : Int)) := by omega
    by_cases hn0 : (xs0.length : Int) ≤ 1048576
    · have e0 : ¬ (1048576 - (xs0.length : Int) < 0) := by omega
      go_enter Try.func3, Try.ntmps3
      go_wp2_with fail
      refine (szBookS_left _ _ _ _ _ mx0 (by omega) (by omega)).mono ?_
      rintro e w' ⟨rfl, rfl⟩
      rw [if_pos (by omega)]
      replace hn0 : xs0.length ≤ 1048576 := by omega
      replace hn1 : zs1.length ≤ 1048576 := by omega
      go_wp2_with fail
      refine (toBookS_any _ xs0 _ SL0.out hn0).mono ?_
      rintro e w1 ⟨g0, rfl, hg0, hr0, h1⟩
      have R0 := Lib.hid (Row.slice hr0)
      clear hr0 hg0
      go_wp2_with fail
      refine (toInt64S_any _ zs1 _ (SL1.out.below h1) hn1).mono ?_
      rintro e w2 ⟨g1, rfl, hg1, hr1, h2⟩
      have R1 := Lib.hid (IRow.slice hr1)
      clear hr1 hg1
      go_wp2_with fail
      refine (specLabelBound_any _ _ _ _ xs0 zs1 WF0.out _ (R0.out.below h2) R1.out (Nat.le_refl _) ML0.out ML1.out).mono ?_
      rintro e w3 ⟨rfl, h3⟩
      go_wp2_with fail
      refine (toBookS_any _ xs0 _ (SL0.out.below (bnext (bnext h1 h2) h3)) hn0).mono ?_
      rintro e w4 ⟨g2, rfl, hg2, hr2, h4⟩
      have R2 := Lib.hid (Row.slice hr2)
      clear hr2 hg2
      go_wp2_with fail
      refine (toInt64S_any _ zs1 _ (SL1.out.below (bnext (bnext (bnext h1 h2) h3) h4)) hn1).mono ?_
      rintro e w5 ⟨g3, rfl, hg3, hr3, h5⟩
      have R3 := Lib.hid (IRow.slice hr3)
      clear hr3 hg3
      go_wp2_with fail
      refine (labelBound_any _ _ xs0 zs1 WF0.out WF1.out _ (R2.out.below h5) R3.out ML0.out ML1.out).mono ?_
      rintro e w6 ⟨rfl, h6⟩
      generalize lbV xs0 zs1 = r0
      generalize lbC xs0 zs1 = r1
      go_wp2_with fail
      refine (toBookS_any _ xs0 _ (SL0.out.below (bnext (bnext (bnext (bnext (bnext h1 h2) h3) h4) h5) h6)) hn0).mono ?_
      rintro e w7 ⟨g4, rfl, hg4, hr4, h7⟩
      have R4 := Lib.hid (Row.slice hr4)
      clear hr4 hg4
      go_wp2_with fail
      refine (eqBookS_same _ _ xs0 _ (R2.out.below (bnext (bnext h5 h6) h7)) R4.out ML0.out).mono ?_
      rintro e w8 ⟨rfl, h8⟩
      go_wp2_with fail
      refine (toInt64S_any _ zs1 _ (SL1.out.below (bnext (bnext (bnext (bnext (bnext (bnext (bnext h1 h2) h3) h4) h5) h6) h7) h8)) hn1).mono ?_
      rintro e w9 ⟨g5, rfl, hg5, hr5, h9⟩
      have R5 := Lib.hid (IRow.slice hr5)
      clear hr5 hg5
      go_wp2_with fail
      refine (eqInt64S_same' _ _ zs1 _ (R3.out.below (bnext (bnext (bnext h6 h7) h8) h9)) R5.out ML1.out).mono ?_
      rintro e w10 ⟨rfl, h10⟩
      go_wp2
      go_ret
      exact ⟨rfl, (bnext (bnext (bnext (bnext (bnext (bnext (bnext (bnext (bnext h1 h2) h3) h4) h5) h6) h7) h8) h9) h10)⟩
    · have e0 : (1048576 - (xs0.length : Int) < 0) := by omega
      go_enter Try.func3, Try.ntmps3
      go_wp2_with fail
      refine (szBookS_left _ _ _ _ _ mx0 (by omega) (by omega)).mono ?_
      rintro e w' ⟨rfl, rfl⟩
      rw [if_neg (by omega)]
      go_wp2
      go_ret
      exact ⟨rfl, (Below.refl _ _)⟩
  · have e1 : (1048576 : Int) < (zs1.length : Int) := by omega
    go_enter Try.func3, Try.ntmps3
    go_wp2
    go_ret
    exact ⟨rfl, by go_grown⟩

end Go.Proofs.Ytboacgmmlficjaa
