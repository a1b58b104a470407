/- The law of FewestSlips, walked. Condition: the three error variables hold three different errors of errors.New's make. -/
import Derived.Test.YtgfffbnodinkcabDoorFew
import Derived.Test.YtgfffbnodinkcabDoorFlB
import Derived.Deep.RegionHeld3
import Derived.Test.YtgfffbnodinkcabDoorOwnsI
namespace Go.Proofs.YtgfffbnodinkcabDoor
set_option linter.unusedSimpArgs false
set_option linter.unusedVariables false
set_option maxRecDepth 100000
open Go.RowKit

theorem rowOtherFewestSlips {w w' : World} {g g' : Nat} {xs : List Bk} (h : Row w g xs) (hg : w.grownBy w' (some g')) (hne : g ≠ g') : Row w' g xs := by
  obtain ⟨cs, h1, h2⟩ := h
  exact ⟨cs, (hg.block g (Array.getElem?_eq_some_iff.1 h1).1 (fun e => hne (by injection e))).trans h1, h2⟩
theorem irowOtherFewestSlips {w w' : World} {g g' : Nat} {t : TypeId} {zs : List Int} (h : IRow .i64 t w g zs) (hg : w.grownBy w' (some g')) (hne : g ≠ g') : IRow .i64 t w' g zs := by
  obtain ⟨cs, h1, h2⟩ := h
  exact ⟨cs, (hg.block g (Array.getElem?_eq_some_iff.1 h1).1 (fun e => hne (by injection e))).trans h1, h2⟩

set_option maxHeartbeats 16000000 in
theorem walkFewestSlips (v0 : Value) (xs0 : List Bk) (wf0 : ∀ b ∈ xs0, b.Wf) (v1 : Value) (xs1 : List Bk) (wf1 : ∀ b ∈ xs1, b.Wf) (w : World) (s i y : Addr) (he : Errs w s i y) (sl0 : SliceOf w v0 xs0) (ml0 : xs0.length ≤ maxLen) (sl1 : SliceOf w v1 xs1) (ml1 : xs1.length ≤ maxLen) :
    Calls Tryd.prog 6 #[v0, v1] w fun e w' => e = .returned (.bool true) ∧ Below w.heap.size w w' := by
  have mx0 : xs0.length ≤ 9223372036854775807 := by unfold maxLen at ml0; omega
  have SL0 := Lib.hid sl0
  have WF0 := Lib.hid wf0
  have ML0 := Lib.hid ml0
  obtain ⟨A0, k0, rfl, -⟩ := sl0
  have mx1 : xs1.length ≤ 9223372036854775807 := by unfold maxLen at ml1; omega
  have SL1 := Lib.hid sl1
  have WF1 := Lib.hid wf1
  have ML1 := Lib.hid ml1
  obtain ⟨A1, k1, rfl, -⟩ := sl1
  have HE := Lib.hid he
  clear wf0 ml0 wf1 ml1 he
  by_cases hn0 : (xs0.length : Int) ≤ 1048576
  · have e0 : ¬ (1048576 - (xs0.length : Int) < 0) := by omega
    by_cases hn1 : (xs1.length : Int) ≤ 1048576 - (xs0.length : Int)
    · have e1 : ¬ (1048576 - (xs0.length : Int) - (xs1.length : Int) < 0) := by omega
      go_enter Tryd.func6, Tryd.ntmps6
      go_wp2_with fail
      refine (szBookS_left _ _ _ _ _ mx0 (by omega) (by omega)).mono ?_
      rintro e w' ⟨rfl, rfl⟩
      rw [if_pos (by omega)]
      go_wp2_with fail
      refine (szBookS_left _ _ _ _ _ mx1 (by omega) (by omega)).mono ?_
      rintro e w' ⟨rfl, rfl⟩
      rw [if_pos (by omega)]
      replace hn0 : xs0.length ≤ 1048576 := by omega
      replace hn1 : xs1.length ≤ 1048576 := by omega
      go_wp2_with fail
      refine (toBookS_any _ xs0 _ (SL0.out) hn0).mono ?_
      rintro e w1 ⟨g0, rfl, lo0, hr0, h1⟩
      have z1 := h1.size
      have B1 := Lib.hid h1
      have zb1 := B1.out.size
      have P0 := Lib.hid hr0
      have hi0 := hr0.lt
      clear hr0
      go_wp2_with fail
      refine (toBookS_any _ xs1 _ (SL1.out.below B1.out) hn1).mono ?_
      rintro e w2 ⟨g1, rfl, lo1, hr1, h2⟩
      have z2 := h2.size
      have B2 := Lib.hid (bnext B1.out h2)
      have zb2 := B2.out.size
      have s0_2 := Lib.hid (P0.out.below h2 P0.out.lt)
      have P1 := Lib.hid hr1
      have hi1 := hr1.lt
      clear hr1
      go_wp2_with fail
      refine (specFewest_any _ _ _ _ xs0 xs1 WF0.out WF1.out _ (Row.slice s0_2.out) (Row.slice P1.out) (Nat.le_refl _) hn0 hn1).mono ?_
      rintro e w3 ⟨rfl, h3⟩
      have z3 := h3.size
      have B3 := Lib.hid (bnext B2.out h3)
      have zb3 := B3.out.size
      have s0_3 := Lib.hid (s0_2.out.below h3 s0_2.out.lt)
      have s1_3 := Lib.hid (P1.out.below h3 P1.out.lt)
      go_wp2_with fail
      refine (toBookS_any _ xs0 _ (SL0.out.below B3.out) hn0).mono ?_
      rintro e w4 ⟨g2, rfl, lo2, hr2, h4⟩
      have z4 := h4.size
      have B4 := Lib.hid (bnext B3.out h4)
      have zb4 := B4.out.size
      have P2 := Lib.hid hr2
      have hi2 := hr2.lt
      clear hr2
      go_wp2_with fail
      refine (toBookS_any _ xs1 _ (SL1.out.below B4.out) hn1).mono ?_
      rintro e w5 ⟨g3, rfl, lo3, hr3, h5⟩
      have z5 := h5.size
      have B5 := Lib.hid (bnext B4.out h5)
      have zb5 := B5.out.size
      have x0_5 := Lib.hid (P2.out.below h5 P2.out.lt)
      have P3 := Lib.hid hr3
      have hi3 := hr3.lt
      clear hr3
      go_wp2_with fail
      refine (fewest_any _ _ _ _ xs0 xs1 WF0.out WF1.out _ s i y (HE.out.below B5.out) (Row.slice x0_5.out) (Row.slice P3.out) (Nat.le_refl _) hn0 hn1).mono ?_
      rintro e w6 ⟨rfl, h6⟩
      have z6 := h6.size
      have B6 := Lib.hid (bnext B5.out h6)
      have zb6 := B6.out.size
      have x0_6 := Lib.hid (x0_5.out.below h6 x0_5.out.lt)
      have x1_6 := Lib.hid (P3.out.below h6 P3.out.lt)
      generalize hrc0 : fsR xs0 xs1 = rc0
      have HRC0 := Lib.hid hrc0
      clear hrc0
      generalize hrc1 : saC xs0 xs1 = rc1
      have HRC1 := Lib.hid hrc1
      clear hrc1
      go_wp2_with fail
      refine (toBookS_any _ xs0 _ (SL0.out.below B6.out) hn0).mono ?_
      rintro e w7 ⟨g4, rfl, lo4, hr4, h7⟩
      have z7 := h7.size
      have B7 := Lib.hid (bnext B6.out h7)
      have zb7 := B7.out.size
      have x0_7 := Lib.hid (x0_6.out.below h7 x0_6.out.lt)
      have x1_7 := Lib.hid (x1_6.out.below h7 x1_6.out.lt)
      have P4 := Lib.hid hr4
      have hi4 := hr4.lt
      clear hr4
      go_wp2_with fail
      refine (eqBookS_same _ _ xs0 _ (Row.slice x0_7.out) (Row.slice P4.out) ML0.out).mono ?_
      rintro e w8 ⟨rfl, h8⟩
      have z8 := h8.size
      have B8 := Lib.hid (bnext B7.out h8)
      have zb8 := B8.out.size
      have x0_8 := Lib.hid (x0_7.out.below h8 x0_7.out.lt)
      have x1_8 := Lib.hid (x1_7.out.below h8 x1_7.out.lt)
      have d0_8 := Lib.hid (P4.out.below h8 P4.out.lt)
      go_wp2_with fail
      refine (toBookS_any _ xs1 _ (SL1.out.below B8.out) hn1).mono ?_
      rintro e w9 ⟨g5, rfl, lo5, hr5, h9⟩
      have z9 := h9.size
      have B9 := Lib.hid (bnext B8.out h9)
      have zb9 := B9.out.size
      have x0_9 := Lib.hid (x0_8.out.below h9 x0_8.out.lt)
      have x1_9 := Lib.hid (x1_8.out.below h9 x1_8.out.lt)
      have P5 := Lib.hid hr5
      have hi5 := hr5.lt
      clear hr5
      go_wp2_with fail
      refine (eqBookS_same _ _ xs1 _ (Row.slice x1_9.out) (Row.slice P5.out) ML1.out).mono ?_
      rintro e w10 ⟨rfl, h10⟩
      have z10 := h10.size
      have B10 := Lib.hid (bnext B9.out h10)
      have zb10 := B10.out.size
      have x0_10 := Lib.hid (x0_9.out.below h10 x0_9.out.lt)
      have x1_10 := Lib.hid (x1_9.out.below h10 x1_9.out.lt)
      have d1_10 := Lib.hid (P5.out.below h10 P5.out.lt)
      go_wp2
      go_ret
      exact ⟨rfl, B10.out⟩
    · have e1 : (1048576 - (xs0.length : Int) - (xs1.length : Int) < 0) := by omega
      go_enter Tryd.func6, Tryd.ntmps6
      go_wp2_with fail
      refine (szBookS_left _ _ _ _ _ mx0 (by omega) (by omega)).mono ?_
      rintro e w' ⟨rfl, rfl⟩
      rw [if_pos (by omega)]
      go_wp2_with fail
      refine (szBookS_left _ _ _ _ _ mx1 (by omega) (by omega)).mono ?_
      rintro e w' ⟨rfl, rfl⟩
      rw [if_neg (by omega)]
      go_wp2
      go_ret
      exact ⟨rfl, Below.refl _ _⟩
  · have e0 : (1048576 - (xs0.length : Int) < 0) := by omega
    go_enter Tryd.func6, Tryd.ntmps6
    go_wp2_with fail
    refine (szBookS_left _ _ _ _ _ mx0 (by omega) (by omega)).mono ?_
    rintro e w' ⟨rfl, rfl⟩
    rw [if_neg (by omega)]
    go_wp2
    go_ret
    exact ⟨rfl, Below.refl _ _⟩

end Go.Proofs.YtgfffbnodinkcabDoor
