/- The law of TotalsOf, walked. No condition. -/
import Derived.Test.YtahpcnfoiiggeabTot
import Derived.Test.YtahpcnfoiiggeabEqArr3
namespace Go.Proofs.Ytahpcnfoiiggeab
set_option linter.unusedSimpArgs false
set_option linter.unusedVariables false
open Go.RowKit

set_option maxHeartbeats 4000000 in
theorem walkTotalsOf (v : Value) (xs : List Bk) (wf : ∀ b ∈ xs, b.Wf) (w : World) (sl : SliceOf w v xs) (ml : xs.length ≤ maxLen) :
    Calls Try.prog 3 #[v] w fun e w' => e = .returned (.bool true) ∧ Below w.heap.size w w' := by
  have mx : xs.length ≤ 9223372036854775807 := by unfold maxLen at ml; omega
  have SL := Lib.hid sl
  have WF := Lib.hid wf
  obtain ⟨A, c, rfl, -⟩ := sl
  clear wf
  by_cases hn : xs.length ≤ 1048576
  · have e0 : ¬ (1048576 - (xs.length : Int) < 0) := by omega
    have CS := Lib.hid (fun vv W hs => specTotals_any vv xs WF.out W hs ml)
    have CI := Lib.hid (fun vv W hs => totals_any vv xs WF.out W hs ml)
    go_enter Try.func3, Try.ntmps3
    go_wp2_with fail
    refine (szBookS_any _ _ _ _ mx).mono ?_
    rintro e w' ⟨rfl, rfl⟩
    rw [if_pos hn]
    go_wp2_with fail
    refine (toBookS_any _ xs _ SL.out hn).mono ?_
    rintro e w1 ⟨ga, rfl, hga, hra, h1⟩
    have RA := Lib.hid hra
    clear hra hga
    generalize tW xs = r0 at CS CI
    generalize tH xs = r1 at CS CI
    generalize tE xs = r2 at CS CI
    generalize tCode xs = rc at CS CI
    go_wp2_with fail
    refine (CS.out _ _ RA.out.slice).mono ?_
    rintro e w2 ⟨rfl, h2⟩
    have g2 := bnext h1 h2
    have G2 := Lib.hid (g2.alloc g2.size (.cells #[.int .i64 r0, .int .i64 r1, .int .i64 r2] 24))
    have X2 := heap_alloc_new w2 (.cells #[.int .i64 r0, .int .i64 r1, .int .i64 r2] 24)
    go_wp2_with fail
    refine (toBookS_any _ xs _ (SL.out.below G2.out) hn).mono ?_
    rintro e w3 ⟨gx, rfl, hgx, hrx, h3⟩
    have RX := Lib.hid hrx
    clear hrx hgx
    go_wp2_with fail
    refine (CI.out _ _ RX.out.slice).mono ?_
    rintro e w4 ⟨rfl, h4⟩
    have z2 : w2.heap.size < w3.heap.size := by have := h3.size; simp at this; omega
    have z4 : w2.heap.size < w4.heap.size := by have := h4.size; omega
    have X4 := (h4.block _ z2).trans ((h3.block _ (by simp)).trans X2)
    have x0 := cell_of_row w4 _ 0 _ _ _ X4
    have x1 := cell_of_row w4 _ 1 _ _ _ X4
    have x2 := cell_of_row w4 _ 2 _ _ _ X4
    simp only [List.getElem?_toArray, List.getElem?_cons_zero, List.getElem?_cons_succ] at x0 x1 x2
    have g4 := bnext (bnext G2.out h3) h4
    have G4 := Lib.hid (g4.alloc g4.size (.cells #[.int .i64 r0, .int .i64 r1, .int .i64 r2] 24))
    have SX := Lib.hid ((RX.out.slice.below h4).below ((Below.refl _ _).alloc (Nat.le_refl _) (.cells #[.int .i64 r0, .int .i64 r1, .int .i64 r2] 24)))
    clear X2 X4 h1 h2 g2 g4 h3 h4
    go_wp2_with fail
    refine (eqArr3_same r0 r1 r2 _).mono ?_
    rintro e w5 ⟨rfl, h5⟩
    clear x0 x1 x2
    go_wp2_with fail
    refine (toBookS_any _ xs _ (SL.out.below (bnext G4.out h5)) hn).mono ?_
    rintro e w6 ⟨gy, rfl, hgy, hry, h6⟩
    have RY := Lib.hid hry
    clear hry hgy
    go_wp2_with fail
    refine (eqBookS_same _ _ xs _ (SX.out.below (bnext h5 h6)) RY.out.slice ml).mono ?_
    rintro e w7 ⟨rfl, h7⟩
    go_wp2
    go_ret
    exact ⟨rfl, bnext (bnext (bnext G4.out h5) h6) h7⟩
  · go_enter Try.func3, Try.ntmps3
    go_wp2_with fail
    refine (szBookS_any _ _ _ _ mx).mono ?_
    rintro e w' ⟨rfl, rfl⟩
    rw [if_neg hn]
    go_wp2
    go_ret
    exact ⟨rfl, Below.refl _ _⟩

end Go.Proofs.Ytahpcnfoiiggeab
