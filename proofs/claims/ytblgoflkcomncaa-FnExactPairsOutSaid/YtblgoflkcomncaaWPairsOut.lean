/- The law of PairsOut, walked. No condition. -/
import Derived.Test.YtblgoflkcomncaaPoM
import Derived.Test.YtblgoflkcomncaaPoI
import Derived.Test.YtblgoflkcomncaaFlB
import Derived.Deep.RegionHeld3
import Derived.Test.YtblgoflkcomncaaOwnsI
namespace Go.Proofs.Ytblgoflkcomncaa
set_option linter.unusedSimpArgs false
set_option linter.unusedVariables false
set_option maxRecDepth 100000
open Go.RowKit

theorem rowOtherPairsOut {w w' : World} {g g' : Nat} {xs : List Bk} (h : Row w g xs) (hg : w.grownBy w' (some g')) (hne : g ≠ g') : Row w' g xs := by
  obtain ⟨cs, h1, h2⟩ := h
  exact ⟨cs, (hg.block g (Array.getElem?_eq_some_iff.1 h1).1 (fun e => hne (by injection e))).trans h1, h2⟩
theorem irowOtherPairsOut {w w' : World} {g g' : Nat} {t : TypeId} {zs : List Int} (h : IRow .i64 t w g zs) (hg : w.grownBy w' (some g')) (hne : g ≠ g') : IRow .i64 t w' g zs := by
  obtain ⟨cs, h1, h2⟩ := h
  exact ⟨cs, (hg.block g (Array.getElem?_eq_some_iff.1 h1).1 (fun e => hne (by injection e))).trans h1, h2⟩

set_option maxHeartbeats 16000000 in
theorem walkPairsOut (v0 : Value) (xs0 : List Bk) (wf0 : ∀ b ∈ xs0, b.Wf) (w : World) (sl0 : SliceOf w v0 xs0) (ml0 : xs0.length ≤ maxLen) :
    Calls Try.prog 4 #[v0] w fun e w' => e = .returned (.bool true) ∧ Below w.heap.size w w' := by
  have mx0 : xs0.length ≤ 9223372036854775807 := by unfold maxLen at ml0; omega
  have SL0 := Lib.hid sl0
  have WF0 := Lib.hid wf0
  have ML0 := Lib.hid ml0
  obtain ⟨A0, k0, rfl, -⟩ := sl0
  clear wf0 ml0
  by_cases hn0 : (xs0.length : Int) ≤ 1048576
  · have e0 : ¬ (1048576 - (xs0.length : Int) < 0) := by omega
    go_enter Try.func4, Try.ntmps4
    go_wp2_with fail
    refine (szBookS_left _ _ _ _ _ mx0 (by omega) (by omega)).mono ?_
    rintro e w' ⟨rfl, rfl⟩
    rw [if_pos (by omega)]
    replace hn0 : xs0.length ≤ 1048576 := by omega
    go_wp2_with fail
    refine (toBookS_any _ xs0 _ (SL0.out) hn0).mono ?_
    rintro e w1 ⟨g0, rfl, lo0, hr0, h1⟩
    have z1 := h1.size
    have B1 := Lib.hid h1
    have zb1 := B1.out.size
    have P0 := Lib.hid hr0
    have hi0 := hr0.lt
    clear hr0
    go_wp2_with fail
    refine (specPairsOut_any _ xs0 WF0.out _ (Row.slice P0.out) ML0.out).mono ?_
    rintro e w2 ⟨rfl, h2⟩
    have z2 := h2.size
    have B2 := Lib.hid (bnext B1.out h2)
    have zb2 := B2.out.size
    have s0_2 := Lib.hid (P0.out.below h2 P0.out.lt)
    go_wp2_with fail
    refine (toBookS_any _ xs0 _ (SL0.out.below B2.out) hn0).mono ?_
    rintro e w3 ⟨g1, rfl, lo1, hr1, h3⟩
    have z3 := h3.size
    have B3 := Lib.hid (bnext B2.out h3)
    have zb3 := B3.out.size
    have P1 := Lib.hid hr1
    have hi1 := hr1.lt
    clear hr1
    go_wp2_with fail
    refine (pairsOut_any _ xs0 WF0.out _ (Row.slice P1.out) ML0.out).mono ?_
    rintro e w4 ⟨rfl, h4⟩
    have z4 := h4.size
    have B4 := Lib.hid (bnext B3.out h4)
    have zb4 := B4.out.size
    have x0_4 := Lib.hid (P1.out.below h4 P1.out.lt)
    generalize hrc0 : poV xs0 = rc0
    have HRC0 := Lib.hid hrc0
    clear hrc0
    generalize hrc1 : poC xs0 = rc1
    have HRC1 := Lib.hid hrc1
    clear hrc1
    go_wp2_with fail
    refine (toBookS_any _ xs0 _ (SL0.out.below B4.out) hn0).mono ?_
    rintro e w5 ⟨g2, rfl, lo2, hr2, h5⟩
    have z5 := h5.size
    have B5 := Lib.hid (bnext B4.out h5)
    have zb5 := B5.out.size
    have x0_5 := Lib.hid (x0_4.out.below h5 x0_4.out.lt)
    have P2 := Lib.hid hr2
    have hi2 := hr2.lt
    clear hr2
    go_wp2_with fail
    refine (eqBookS_same _ _ xs0 _ (Row.slice x0_5.out) (Row.slice P2.out) ML0.out).mono ?_
    rintro e w6 ⟨rfl, h6⟩
    have z6 := h6.size
    have B6 := Lib.hid (bnext B5.out h6)
    have zb6 := B6.out.size
    have x0_6 := Lib.hid (x0_5.out.below h6 x0_5.out.lt)
    have d0_6 := Lib.hid (P2.out.below h6 P2.out.lt)
    go_wp2
    go_ret
    exact ⟨rfl, B6.out⟩
  · have e0 : (1048576 - (xs0.length : Int) < 0) := by omega
    go_enter Try.func4, Try.ntmps4
    go_wp2_with fail
    refine (szBookS_left _ _ _ _ _ mx0 (by omega) (by omega)).mono ?_
    rintro e w' ⟨rfl, rfl⟩
    rw [if_neg (by omega)]
    go_wp2
    go_ret
    exact ⟨rfl, Below.refl _ _⟩

end Go.Proofs.Ytblgoflkcomncaa
