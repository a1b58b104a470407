/- The law of SameBooks, walked. No condition. -/
import Derived.Test.YtahpcnfoiiggeaaSame
import Derived.Test.YtahpcnfoiiggeaaBooksOk
import Derived.Test.YtahpcnfoiiggeaaToBookS
import Derived.Test.YtahpcnfoiiggeaaQuiet
namespace Go.Proofs.Ytahpcnfoiiggeaa
set_option linter.unusedSimpArgs false
set_option linter.unusedVariables false
open Go.RowKit

set_option maxHeartbeats 400000 in
theorem specSameBooks_any (v1 v2 : Value) (xs ys : List Bk) (w : World) (hs1 : SliceOf w v1 xs) (hs2 : SliceOf w v2 ys) (hn1 : xs.length ≤ maxLen) (hn2 : ys.length ≤ maxLen) :
    Calls Try.prog 23 #[v1, v2] w fun e w' => e = .returned (.bool (decide (xs = ys))) ∧ Below w.heap.size w w' := by
  have C := Lib.hid (l01Same_any v1 v2 xs ys w hs1 hs2 hn1 hn2)
  clear hs1 hs2 hn1 hn2
  go_enter Try.func23, Try.ntmps23
  go_wp2_with fail
  refine C.out.mono ?_
  rintro e w1 ⟨rfl, h1⟩
  go_wp2
  go_ret
  exact ⟨rfl, h1⟩

set_option maxHeartbeats 400000 in
theorem sameBooks_any (v1 v2 : Value) (xs ys : List Bk) (w : World) (hs1 : SliceOf w v1 xs) (hs2 : SliceOf w v2 ys) (hn1 : xs.length ≤ maxLen) (hn2 : ys.length ≤ maxLen) :
    Calls Try.prog 24 #[v1, v2] w fun e w' => e = .returned (.bool (decide (xs = ys))) ∧ Below w.heap.size w w' := by
  have C := Lib.hid (slicesEqual_any v1 v2 xs ys w hs1 hs2 hn1 hn2)
  clear hs1 hs2 hn1 hn2
  go_enter Try.func24, Try.ntmps24
  go_wp2_with fail
  refine C.out.mono ?_
  rintro e w1 ⟨rfl, h1⟩
  go_wp2
  go_ret
  exact ⟨rfl, h1⟩

set_option maxHeartbeats 2000000 in
theorem walkSameBooks (v : Value) (xs : List Bk) (_ : ∀ b ∈ xs, b.Wf) (u : Value) (ys : List Bk) (_ : ∀ b ∈ ys, b.Wf) (w : World) (sl : SliceOf w v xs) (ml : xs.length ≤ maxLen) (sm : SliceOf w u ys) (mm : ys.length ≤ maxLen) :
    Calls Try.prog 6 #[v, u] w fun e w' => e = .returned (.bool true) ∧ Below w.heap.size w w' := by
  have mx : xs.length ≤ 9223372036854775807 := by unfold maxLen at ml; omega
  have my : ys.length ≤ 9223372036854775807 := by unfold maxLen at mm; omega
  have SL := Lib.hid sl
  have SM := Lib.hid sm
  obtain ⟨A, c, rfl, -⟩ := sl
  obtain ⟨A', c', rfl, -⟩ := sm
  by_cases hn : xs.length ≤ 1048576
  · have e0 : ¬ (1048576 - (xs.length : Int) < 0) := by omega
    by_cases hm : (ys.length : Int) ≤ 1048576 - xs.length
    · have e1 : ¬ (1048576 - (xs.length : Int) - (ys.length : Int) < 0) := by omega
      have hm' : ys.length ≤ 1048576 := by omega
      go_enter Try.func6, Try.ntmps6
      go_wp2_with fail
      refine (szBookS_any _ _ _ _ mx).mono ?_
      rintro e w' ⟨rfl, rfl⟩
      rw [if_pos hn]
      go_wp2_with fail
      refine (szBookS_left _ _ _ _ _ my (by omega) (by omega)).mono ?_
      rintro e w' ⟨rfl, rfl⟩
      rw [if_pos hm]
      go_wp2_with fail
      refine (toBookS_any _ xs _ SL.out hn).mono ?_
      rintro e w1 ⟨g0_, rfl, hg0_, hr0_, h1⟩
      have R0 := Lib.hid hr0_
      clear hr0_ hg0_
      go_wp2_with fail
      refine (toBookS_any _ ys _ (SM.out.below h1) hm').mono ?_
      rintro e w2 ⟨g1_, rfl, hg1_, hr1_, h2⟩
      have R1 := Lib.hid hr1_
      clear hr1_ hg1_
      go_wp2_with fail
      refine (specSameBooks_any _ _ xs ys _ (R0.out.slice.below h2) R1.out.slice ml mm).mono ?_
      rintro e w3 ⟨rfl, h3⟩
      go_wp2_with fail
      refine (toBookS_any _ xs _ (SL.out.below (bnext (bnext h1 h2) h3)) hn).mono ?_
      rintro e w4 ⟨g2_, rfl, hg2_, hr2_, h4⟩
      have R2 := Lib.hid hr2_
      clear hr2_ hg2_
      go_wp2_with fail
      refine (toBookS_any _ ys _ (SM.out.below (bnext (bnext (bnext h1 h2) h3) h4)) hm').mono ?_
      rintro e w5 ⟨g3_, rfl, hg3_, hr3_, h5⟩
      have R3 := Lib.hid hr3_
      clear hr3_ hg3_
      go_wp2_with fail
      refine (sameBooks_any _ _ xs ys _ (R2.out.slice.below h5) R3.out.slice ml mm).mono ?_
      rintro e w6 ⟨rfl, h6⟩
      generalize decide (xs = ys) = r
      cases r
      all_goals
        go_wp2_with fail
        refine (toBookS_any _ xs _ (SL.out.below (bnext (bnext (bnext (bnext (bnext h1 h2) h3) h4) h5) h6)) hn).mono ?_
        rintro e w7 ⟨g4_, rfl, hg4_, hr4_, h7⟩
        have R4 := Lib.hid hr4_
        clear hr4_ hg4_
        go_wp2_with fail
        refine (eqBookS_same _ _ xs _ (R2.out.slice.below (bnext (bnext h5 h6) h7)) R4.out.slice ml).mono ?_
        rintro e w8 ⟨rfl, h8⟩
        go_wp2_with fail
        refine (toBookS_any _ ys _ (SM.out.below (bnext (bnext (bnext (bnext (bnext (bnext (bnext h1 h2) h3) h4) h5) h6) h7) h8)) hm').mono ?_
        rintro e w9 ⟨g5_, rfl, hg5_, hr5_, h9⟩
        have R5 := Lib.hid hr5_
        clear hr5_ hg5_
        go_wp2_with fail
        refine (eqBookS_same _ _ ys _ (R3.out.slice.below (bnext (bnext (bnext h6 h7) h8) h9)) R5.out.slice mm).mono ?_
        rintro e w10 ⟨rfl, h10⟩
        go_wp2
        go_ret
        exact ⟨rfl, (bnext (bnext (bnext (bnext (bnext (bnext (bnext (bnext (bnext h1 h2) h3) h4) h5) h6) h7) h8) h9) h10)⟩
    · go_enter Try.func6, Try.ntmps6
      go_wp2_with fail
      refine (szBookS_any _ _ _ _ mx).mono ?_
      rintro e w' ⟨rfl, rfl⟩
      rw [if_pos hn]
      go_wp2_with fail
      refine (szBookS_left _ _ _ _ _ my (by omega) (by omega)).mono ?_
      rintro e w' ⟨rfl, rfl⟩
      rw [if_neg (by omega)]
      go_wp2
      go_ret
      exact ⟨rfl, (Below.refl _ _)⟩
  · go_enter Try.func6, Try.ntmps6
    go_wp2_with fail
    refine (szBookS_any _ _ _ _ mx).mono ?_
    rintro e w' ⟨rfl, rfl⟩
    rw [if_neg hn]
    go_wp2
    go_ret
    exact ⟨rfl, (Below.refl _ _)⟩

end Go.Proofs.Ytahpcnfoiiggeaa
