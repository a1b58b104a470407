/- The law of ValidBooks, walked. No condition. -/
import Derived.Test.YtahpcnfoiiggeaaBooksOk
import Derived.Test.YtahpcnfoiiggeaaToBookS
import Derived.Test.YtahpcnfoiiggeaaQuiet
namespace Go.Proofs.Ytahpcnfoiiggeaa
set_option linter.unusedSimpArgs false
set_option linter.unusedVariables false
open Go.RowKit

theorem SliceOf.next {W w w' : World} {v : Value} {xs : List Bk} (h : SliceOf W v xs) (hb : Below W.heap.size W w) (h1 : Below w.heap.size w w') : SliceOf w' v xs := (h.below hb).below h1

set_option maxHeartbeats 1000000 in
theorem walkValidBooks (v : Value) (xs : List Bk) (wf : ∀ b ∈ xs, b.Wf) (w : World) (sl : SliceOf w v xs) (ml : xs.length ≤ maxLen) :
    Calls Try.prog 5 #[v] w fun e w' => e = .returned (.bool true) ∧ Below w.heap.size w w' := by
  have mx : xs.length ≤ 9223372036854775807 := by unfold maxLen at ml; omega
  have SL := Lib.hid sl
  have WF := Lib.hid wf
  obtain ⟨A, c, rfl, -⟩ := sl
  clear wf
  by_cases hn : xs.length ≤ 1048576
  · have e0 : ¬ (1048576 - (xs.length : Int) < 0) := by omega
    go_enter Try.func5, Try.ntmps5
    go_wp2_with fail
    refine (szBookS_any _ _ _ _ mx).mono ?_
    rintro e w' ⟨rfl, rfl⟩
    rw [if_pos hn]
    go_wp2_with fail
    refine (toBookS_any _ xs _ SL.out hn).mono ?_
    rintro e w1 ⟨g, rfl, hg, hr, h1⟩
    have R := Lib.hid hr
    clear hr
    go_wp2_with fail
    refine (specValidBooks_any _ xs WF.out _ R.out.slice ml).mono ?_
    rintro e w2 ⟨rfl, h2⟩
    have g2 := bnext h1 h2
    go_wp2_with fail
    refine (toBookS_any _ xs _ (SL.out.below g2) hn).mono ?_
    rintro e w3 ⟨g', rfl, hg', hr', h3⟩
    have R' := Lib.hid hr'
    have g3 := bnext g2 h3
    clear hr'
    go_wp2_with fail
    refine (validBooks_any _ xs _ R'.out.slice ml).mono ?_
    rintro e w4 ⟨rfl, h4⟩
    have g4 := bnext g3 h4
    generalize okB xs = r
    cases r
    all_goals
      go_wp2_with fail
      refine (toBookS_any _ xs _ (SL.out.below g4) hn).mono ?_
      rintro e w5 ⟨g'', rfl, hg'', hr'', h5⟩
      have R'' := Lib.hid hr''
      have g5 := bnext g4 h5
      clear hr''
      go_wp2_with fail
      refine (eqBookS_same _ _ xs _ (R'.out.slice.next h4 h5) R''.out.slice ml).mono ?_
      rintro e w6 ⟨rfl, h6⟩
      have g6 := bnext g5 h6
      go_wp2
      go_ret
      exact ⟨rfl, g6⟩
  · go_enter Try.func5, Try.ntmps5
    go_wp2_with fail
    refine (szBookS_any _ _ _ _ mx).mono ?_
    rintro e w' ⟨rfl, rfl⟩
    rw [if_neg hn]
    go_wp2
    go_ret
    exact ⟨rfl, Below.refl _ _⟩

end Go.Proofs.Ytahpcnfoiiggeaa
