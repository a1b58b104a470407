/- The law of WasteOf, walked. No condition. -/
import Derived.Test.YtjfhpgomaahgoaaWsO
import Derived.Test.YtjfhpgomaahgoaaToBookS
import Derived.Test.YtjfhpgomaahgoaaQuiet
import Derived.Test.YtjfhpgomaahgoaaNums
namespace Go.Proofs.Ytjfhpgomaahgoaa
set_option linter.unusedSimpArgs false
set_option linter.unusedVariables false
set_option maxRecDepth 100000
open Go.RowKit

set_option maxHeartbeats 8000000 in
theorem walkWasteOf (p0 : Pg) (wf0 : p0.Wf) (v1 : Value) (zs1 : List Int) (wf1 : ∀ z ∈ zs1, (Lit.int .i64 z).wf = true) (v2 : Value) (xs2 : List Bk) (wf2 : ∀ b ∈ xs2, b.Wf) (w : World) (sl1 : IntsOf .i64 w v1 zs1) (ml1 : zs1.length ≤ maxLen) (sl2 : SliceOf w v2 xs2) (ml2 : xs2.length ≤ maxLen) :
    Calls Try.prog 12 #[.agg #[.int .i16 p0.lo, .int .i16 p0.st, .int .i16 p0.bo], v1, v2] w fun e w' => e = .returned (.bool true) ∧ Below w.heap.size w w' := by
  have WF0 := Lib.hid wf0
  have mx1 : zs1.length ≤ 9223372036854775807 := by unfold maxLen at ml1; omega
  have SL1 := Lib.hid sl1
  have WF1 := Lib.hid wf1
  have ML1 := Lib.hid ml1
  obtain ⟨A1, k1, rfl, -⟩ := sl1
  have mx2 : xs2.length ≤ 9223372036854775807 := by unfold maxLen at ml2; omega
  have SL2 := Lib.hid sl2
  have WF2 := Lib.hid wf2
  have ML2 := Lib.hid ml2
  obtain ⟨A2, k2, rfl, -⟩ := sl2
  clear wf0 wf1 ml1 wf2 ml2
  have A0 := Lib.hid (PegIn.new w p0 24)
  have Z0 := Lib.hid (show w.heap.size < (World.alloc w (.cells #[.int .i16 p0.lo, .int .i16 p0.st, .int .i16 p0.bo] 24)).heap.size by simp)
  have h1 : Below w.heap.size w (World.alloc w (.cells #[.int .i16 p0.lo, .int .i16 p0.st, .int .i16 p0.bo] 24)) := by go_grown
  by_cases hn1 : (zs1.length : Int) ≤ 1048576
  · have e1 : ¬ ((1048576 : Int) < (zs1.length : Int)) := by omega
    by_cases hn2 : (xs2.length : Int) ≤ 1048576
    · have e2 : ¬ (1048576 - (xs2.length : Int) < 0) := by omega
      go_enter Try.func12, Try.ntmps12
      go_wp2_with fail
      generalize World.alloc _ _ = w1 at A0 Z0 h1 ⊢
      refine (szBookS_left _ _ _ _ _ mx2 (by omega) (by omega)).mono ?_
      rintro e w' ⟨rfl, rfl⟩
      rw [if_pos (by omega)]
      replace hn1 : zs1.length ≤ 1048576 := by omega
      replace hn2 : xs2.length ≤ 1048576 := by omega
      obtain ⟨p0_0, p0_1, p0_2⟩ := A0.out.below (Below.refl _ _) Z0.out
      go_wp2_with fail
      refine (toPegs_any p0 _).mono ?_
      rintro e w2 ⟨rfl, h2⟩
      clear p0_0 p0_1 p0_2
      go_wp2_with fail
      refine (toInt64S_any _ zs1 _ (SL1.out.below (bnext h1 h2)) hn1).mono ?_
      rintro e w3 ⟨g1, rfl, hg1, hr1, h3⟩
      have R1 := Lib.hid (IRow.slice hr1)
      clear hr1 hg1
      go_wp2_with fail
      refine (toBookS_any _ xs2 _ (SL2.out.below (bnext (bnext h1 h2) h3)) hn2).mono ?_
      rintro e w4 ⟨g2, rfl, hg2, hr2, h4⟩
      have R2 := Lib.hid (Row.slice hr2)
      clear hr2 hg2
      go_wp2_with fail
      refine (specWasteOf_any p0 WF0.out _ _ zs1 xs2 WF1.out WF2.out _ (R1.out.below h4) R2.out ML1.out ML2.out).mono ?_
      rintro e w5 ⟨rfl, h5⟩
      go_wp2_with fail
      refine (toInt64S_any _ zs1 _ (SL1.out.below (bnext (bnext (bnext (bnext h1 h2) h3) h4) h5)) hn1).mono ?_
      rintro e w6 ⟨g3, rfl, hg3, hr3, h6⟩
      have R3 := Lib.hid (IRow.slice hr3)
      clear hr3 hg3
      go_wp2_with fail
      refine (toBookS_any _ xs2 _ (SL2.out.below (bnext (bnext (bnext (bnext (bnext h1 h2) h3) h4) h5) h6)) hn2).mono ?_
      rintro e w7 ⟨g4, rfl, hg4, hr4, h7⟩
      have R4 := Lib.hid (Row.slice hr4)
      clear hr4 hg4
      obtain ⟨p0_0, p0_1, p0_2⟩ := A0.out.below (bnext (bnext (bnext (bnext (bnext h2 h3) h4) h5) h6) h7) Z0.out
      go_wp2_with fail
      refine (toPegs_any p0 _).mono ?_
      rintro e w8 ⟨rfl, h8⟩
      clear p0_0 p0_1 p0_2
      go_wp2_with fail
      refine (wasteOfTop_any p0 WF0.out _ _ zs1 xs2 WF1.out WF2.out _ (R3.out.below (bnext h7 h8)) (R4.out.below h8) ML1.out ML2.out).mono ?_
      rintro e w9 ⟨rfl, h9⟩
      generalize woV p0 zs1 xs2 = r0
      generalize gcC p0 zs1 xs2 = r1
      go_wp2_with fail
      refine (toInt64S_any _ zs1 _ (SL1.out.below (bnext (bnext (bnext (bnext (bnext (bnext (bnext (bnext h1 h2) h3) h4) h5) h6) h7) h8) h9)) hn1).mono ?_
      rintro e w10 ⟨g6, rfl, hg6, hr6, h10⟩
      have R6 := Lib.hid (IRow.slice hr6)
      clear hr6 hg6
      go_wp2_with fail
      refine (eqInt64S_same' _ _ zs1 _ (R3.out.below (bnext (bnext (bnext h7 h8) h9) h10)) R6.out ML1.out).mono ?_
      rintro e w11 ⟨rfl, h11⟩
      go_wp2_with fail
      refine (toBookS_any _ xs2 _ (SL2.out.below (bnext (bnext (bnext (bnext (bnext (bnext (bnext (bnext (bnext (bnext h1 h2) h3) h4) h5) h6) h7) h8) h9) h10) h11)) hn2).mono ?_
      rintro e w12 ⟨g7, rfl, hg7, hr7, h12⟩
      have R7 := Lib.hid (Row.slice hr7)
      clear hr7 hg7
      go_wp2_with fail
      refine (eqBookS_same _ _ xs2 _ (R4.out.below (bnext (bnext (bnext (bnext h8 h9) h10) h11) h12)) R7.out ML2.out).mono ?_
      rintro e w13 ⟨rfl, h13⟩
      go_wp2
      go_ret
      exact ⟨rfl, (bnext (bnext (bnext (bnext (bnext (bnext (bnext (bnext (bnext (bnext (bnext (bnext h1 h2) h3) h4) h5) h6) h7) h8) h9) h10) h11) h12) h13)⟩
    · have e2 : (1048576 - (xs2.length : Int) < 0) := by omega
      go_enter Try.func12, Try.ntmps12
      go_wp2_with fail
      generalize World.alloc _ _ = w1 at A0 Z0 h1 ⊢
      refine (szBookS_left _ _ _ _ _ mx2 (by omega) (by omega)).mono ?_
      rintro e w' ⟨rfl, rfl⟩
      rw [if_neg (by omega)]
      go_wp2
      go_ret
      exact ⟨rfl, h1⟩
  · have e1 : (1048576 : Int) < (zs1.length : Int) := by omega
    go_enter Try.func12, Try.ntmps12
    go_wp2
    go_ret
    exact ⟨rfl, by go_grown⟩

end Go.Proofs.Ytjfhpgomaahgoaa
