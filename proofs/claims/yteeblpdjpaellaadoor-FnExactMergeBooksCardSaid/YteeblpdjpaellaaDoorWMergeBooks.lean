/- The law of MergeBooks, walked. Condition: the three error variables hold three different errors of errors.New's make. -/
import Derived.Test.YteeblpdjpaellaaDoorMgI
import Derived.Test.YteeblpdjpaellaaDoorFlB
import Derived.Deep.RegionHeld3
import Derived.Test.YteeblpdjpaellaaDoorOwnsI
namespace Go.Proofs.YteeblpdjpaellaaDoor
set_option linter.unusedSimpArgs false
set_option linter.unusedVariables false
set_option maxRecDepth 100000
open Go.RowKit

theorem rowOtherMergeBooks {w w' : World} {g g' : Nat} {xs : List Bk} (h : Row w g xs) (hg : w.grownBy w' (some g')) (hne : g ≠ g') : Row w' g xs := by
  obtain ⟨cs, h1, h2⟩ := h
  exact ⟨cs, (hg.block g (Array.getElem?_eq_some_iff.1 h1).1 (fun e => hne (by injection e))).trans h1, h2⟩
theorem irow8OtherMergeBooks {w w' : World} {g g' : Nat} {t : TypeId} {zs : List Int} (h : IRow .i8 t w g zs) (hg : w.grownBy w' (some g')) (hne : g ≠ g') : IRow .i8 t w' g zs := by
  obtain ⟨cs, h1, h2⟩ := h
  exact ⟨cs, (hg.block g (Array.getElem?_eq_some_iff.1 h1).1 (fun e => hne (by injection e))).trans h1, h2⟩
theorem irowOtherMergeBooks {w w' : World} {g g' : Nat} {t : TypeId} {zs : List Int} (h : IRow .i64 t w g zs) (hg : w.grownBy w' (some g')) (hne : g ≠ g') : IRow .i64 t w' g zs := by
  obtain ⟨cs, h1, h2⟩ := h
  exact ⟨cs, (hg.block g (Array.getElem?_eq_some_iff.1 h1).1 (fun e => hne (by injection e))).trans h1, h2⟩

set_option maxHeartbeats 16000000 in
theorem walkMergeBooks (v0 : Value) (xs0 : List Bk) (wf0 : ∀ b ∈ xs0, b.Wf) (v1 : Value) (xs1 : List Bk) (wf1 : ∀ b ∈ xs1, b.Wf) (w : World) (s i y : Addr) (he : Errs w s i y) (sl0 : SliceOf w v0 xs0) (ml0 : xs0.length ≤ maxLen) (sl1 : SliceOf w v1 xs1) (ml1 : xs1.length ≤ maxLen) :
    Calls Tryd.prog 5 #[v0, v1] w fun e w' => e = .returned (.bool true) ∧ Below w.heap.size w w' := by
  have mx0 : xs0.length ≤ 9223372036854775807 := by unfold maxLen at ml0; omega
  have SL0 := Lib.hid sl0
  have WF0 := Lib.hid wf0
  have ML0 := Lib.hid ml0
  obtain ⟨A0, k0, rfl, -⟩ := sl0
  have mx1 : xs1.length ≤ 9223372036854775807 := by unfold maxLen at ml1; omega
  have SL1 := Lib.hid sl1
  have WF1 := Lib.hid wf1
  have ML1 := Lib.hid ml1
  obtain ⟨A1, k1, rfl, -⟩ := sl1
  have HE := Lib.hid he
  clear wf0 ml0 wf1 ml1 he
  by_cases hn0 : (xs0.length : Int) ≤ 1048576
  · have e0 : ¬ (1048576 - (xs0.length : Int) < 0) := by omega
    by_cases hn1 : (xs1.length : Int) ≤ 1048576 - (xs0.length : Int)
    · have e1 : ¬ (1048576 - (xs0.length : Int) - (xs1.length : Int) < 0) := by omega
      go_enter Tryd.func5, Tryd.ntmps5
      go_wp2_with fail
      refine (szBookS_left _ _ _ _ _ mx0 (by omega) (by omega)).mono ?_
      rintro e w' ⟨rfl, rfl⟩
      rw [if_pos (by omega)]
      go_wp2_with fail
      refine (szBookS_left _ _ _ _ _ mx1 (by omega) (by omega)).mono ?_
      rintro e w' ⟨rfl, rfl⟩
      rw [if_pos (by omega)]
      replace hn0 : xs0.length ≤ 1048576 := by omega
      replace hn1 : xs1.length ≤ 1048576 := by omega
      have LR0 := Lib.hid (show (mgL xs0 xs1).length ≤ 1048576 from Nat.le_trans (mgL_60 _ _) (by decide))
      have LM0 := Lib.hid (show (mgL xs0 xs1).length ≤ maxLen from Nat.le_trans LR0.out (by unfold maxLen; omega))
      go_wp2_with fail
      refine (toBookS_any _ xs0 _ (SL0.out) hn0).mono ?_
      rintro e w1 ⟨g0, rfl, lo0, hr0, h1⟩
      have z1 := h1.size
      have B1 := Lib.hid h1
      have zb1 := B1.out.size
      have P0 := Lib.hid hr0
      have hi0 := hr0.lt
      clear hr0
      go_wp2_with fail
      refine (toBookS_any _ xs1 _ (SL1.out.below B1.out) hn1).mono ?_
      rintro e w2 ⟨g1, rfl, lo1, hr1, h2⟩
      have z2 := h2.size
      have B2 := Lib.hid (bnext B1.out h2)
      have zb2 := B2.out.size
      have s0_2 := Lib.hid (P0.out.below h2 P0.out.lt)
      have P1 := Lib.hid hr1
      have hi1 := hr1.lt
      clear hr1
      go_wp2_with fail
      refine (specMergeBooks_any _ _ _ _ _ _ xs0 xs1 WF0.out WF1.out _ (Row.slice s0_2.out) (Row.slice P1.out) (Nat.le_refl _) (Nat.le_refl _) hn0 hn1).mono ?_
      rintro e w3 ⟨u0, rfl, hu0, h3⟩
      have z3 := h3.size
      have B3 := Lib.hid (bnext B2.out h3)
      have zb3 := B3.out.size
      have s0_3 := Lib.hid (s0_2.out.below h3 s0_2.out.lt)
      have s1_3 := Lib.hid (P1.out.below h3 P1.out.lt)
      have Fu0 := Lib.hid hu0
      have Lu0 := Lib.hid Fu0.out.lt
      clear hu0
      go_wp2_with fail
      refine (toBookS_any _ xs0 _ (SL0.out.below B3.out) hn0).mono ?_
      rintro e w4 ⟨g2, rfl, lo2, hr2, h4⟩
      have z4 := h4.size
      have B4 := Lib.hid (bnext B3.out h4)
      have zb4 := B4.out.size
      have u0_4 := Lib.hid (Fu0.out.below h4)
      have P2 := Lib.hid hr2
      have hi2 := hr2.lt
      clear hr2
      go_wp2_with fail
      refine (toBookS_any _ xs1 _ (SL1.out.below B4.out) hn1).mono ?_
      rintro e w5 ⟨g3, rfl, lo3, hr3, h5⟩
      have z5 := h5.size
      have B5 := Lib.hid (bnext B4.out h5)
      have zb5 := B5.out.size
      have u0_5 := Lib.hid (u0_4.out.below h5)
      have x0_5 := Lib.hid (P2.out.below h5 P2.out.lt)
      have P3 := Lib.hid hr3
      have hi3 := hr3.lt
      clear hr3
      go_wp2_with fail
      refine (mergeBooks_any _ _ _ _ _ _ xs0 xs1 WF0.out WF1.out _ s i y (HE.out.below B5.out) (Row.slice x0_5.out) (Row.slice P3.out) (RowK.lt x0_5.out) (RowK.lt P3.out) hn0 hn1).mono ?_
      rintro e w6 ⟨t0, rfl, ht0, h6⟩
      have z6 := h6.size
      have B6 := Lib.hid (bnext B5.out h6)
      have zb6 := B6.out.size
      have u0_6 := Lib.hid (u0_5.out.below h6)
      have x0_6 := Lib.hid (x0_5.out.below h6 x0_5.out.lt)
      have x1_6 := Lib.hid (P3.out.below h6 P3.out.lt)
      have Ft0 := Lib.hid ht0
      have Lt0 := Lib.hid Ft0.out.lt
      clear ht0
      generalize hrc1 : mgC xs0 xs1 = rc1
      have HRC1 := Lib.hid hrc1
      clear hrc1
      go_wp2_with fail
      refine (eqBookS_same _ _ (mgL xs0 xs1) _ Ft0.out.slice u0_6.out.slice LM0.out).mono ?_
      rintro e w7 ⟨rfl, h7⟩
      have z7 := h7.size
      have B7 := Lib.hid (bnext B6.out h7)
      have zb7 := B7.out.size
      have u0_7 := Lib.hid (u0_6.out.below h7)
      have x0_7 := Lib.hid (x0_6.out.below h7 x0_6.out.lt)
      have x1_7 := Lib.hid (x1_6.out.below h7 x1_6.out.lt)
      have t0_7 := Lib.hid (Ft0.out.below h7)
      go_wp2_with fail
      refine (toBookS_any _ xs0 _ (SL0.out.below B7.out) hn0).mono ?_
      rintro e w8 ⟨g4, rfl, lo4, hr4, h8⟩
      have z8 := h8.size
      have B8 := Lib.hid (bnext B7.out h8)
      have zb8 := B8.out.size
      have u0_8 := Lib.hid (u0_7.out.below h8)
      have x0_8 := Lib.hid (x0_7.out.below h8 x0_7.out.lt)
      have x1_8 := Lib.hid (x1_7.out.below h8 x1_7.out.lt)
      have t0_8 := Lib.hid (t0_7.out.below h8)
      have P4 := Lib.hid hr4
      have hi4 := hr4.lt
      clear hr4
      go_wp2_with fail
      refine (eqBookS_same _ _ xs0 _ (Row.slice x0_8.out) (Row.slice P4.out) ML0.out).mono ?_
      rintro e w9 ⟨rfl, h9⟩
      have z9 := h9.size
      have B9 := Lib.hid (bnext B8.out h9)
      have zb9 := B9.out.size
      have u0_9 := Lib.hid (u0_8.out.below h9)
      have x0_9 := Lib.hid (x0_8.out.below h9 x0_8.out.lt)
      have x1_9 := Lib.hid (x1_8.out.below h9 x1_8.out.lt)
      have t0_9 := Lib.hid (t0_8.out.below h9)
      have d0_9 := Lib.hid (P4.out.below h9 P4.out.lt)
      go_wp2_with fail
      refine (toBookS_any _ xs1 _ (SL1.out.below B9.out) hn1).mono ?_
      rintro e w10 ⟨g5, rfl, lo5, hr5, h10⟩
      have z10 := h10.size
      have B10 := Lib.hid (bnext B9.out h10)
      have zb10 := B10.out.size
      have u0_10 := Lib.hid (u0_9.out.below h10)
      have x0_10 := Lib.hid (x0_9.out.below h10 x0_9.out.lt)
      have x1_10 := Lib.hid (x1_9.out.below h10 x1_9.out.lt)
      have t0_10 := Lib.hid (t0_9.out.below h10)
      have P5 := Lib.hid hr5
      have hi5 := hr5.lt
      clear hr5
      go_wp2_with fail
      refine (eqBookS_same _ _ xs1 _ (Row.slice x1_10.out) (Row.slice P5.out) ML1.out).mono ?_
      rintro e w11 ⟨rfl, h11⟩
      have z11 := h11.size
      have B11 := Lib.hid (bnext B10.out h11)
      have zb11 := B11.out.size
      have u0_11 := Lib.hid (u0_10.out.below h11)
      have x0_11 := Lib.hid (x0_10.out.below h11 x0_10.out.lt)
      have x1_11 := Lib.hid (x1_10.out.below h11 x1_10.out.lt)
      have t0_11 := Lib.hid (t0_10.out.below h11)
      have d1_11 := Lib.hid (P5.out.below h11 P5.out.lt)
      go_wp2_with fail
      refine (markBookS_val g2 xs0.length xs0.length xs0.length 1 _ (RowG.of x0_11.out) (Nat.le_refl _) hn0 (by omega) (by omega)).mono ?_
      rintro e w12 ⟨rfl, -, h12⟩
      have z12 := h12.size
      have B12 := Lib.hid (B11.out.grown h12 B11.out.size (fun k hk => by injection hk with hk; omega))
      have zb12 := B12.out.size
      have u0_12 := Lib.hid (u0_11.out.other h12 (fun k hk e => by have := Lu0.out k hk; first | (injection e with e; omega) | omega))
      have x1_12 := Lib.hid (rowOtherMergeBooks x1_11.out h12 (by have := lo3; have := hi3; omega))
      have t0_12 := Lib.hid (t0_11.out.other h12 (fun k hk e => by have := Lt0.out k hk; first | (injection e with e; omega) | omega))
      generalize hkk12 : 1 + 8 * (xs0.length : Int) = kk12
      have kl12 : 0 ≤ kk12 := by omega
      have ku12 : kk12 ≤ 8388609 := by omega
      clear hkk12
      go_wp2_with fail
      refine (markBookS_val g3 xs1.length xs1.length xs1.length kk12 _ (RowG.of x1_12.out) (Nat.le_refl _) hn1 (by omega) (by omega)).mono ?_
      rintro e w13 ⟨rfl, -, h13⟩
      have z13 := h13.size
      have B13 := Lib.hid (B12.out.grown h13 B12.out.size (fun k hk => by injection hk with hk; omega))
      have zb13 := B13.out.size
      have u0_13 := Lib.hid (u0_12.out.other h13 (fun k hk e => by have := Lu0.out k hk; first | (injection e with e; omega) | omega))
      have t0_13 := Lib.hid (t0_12.out.other h13 (fun k hk e => by have := Lt0.out k hk; first | (injection e with e; omega) | omega))
      generalize hkk13 : kk12 + 8 * (xs1.length : Int) = kk13
      have kl13 : 0 ≤ kk13 := by omega
      have ku13 : kk13 ≤ 16777217 := by omega
      clear hkk13
      have kd : decide (kk13 < 0) = false := by simp; omega
      have kd2 : ¬ (kk13 < 0) := by omega
      go_wp2_with fail
      refine (eqBookS_same _ _ (mgL xs0 xs1) _ t0_13.out.slice u0_13.out.slice LM0.out).mono ?_
      rintro e w14 ⟨rfl, h14⟩
      have z14 := h14.size
      have B14 := Lib.hid (bnext B13.out h14)
      have zb14 := B14.out.size
      have u0_14 := Lib.hid (u0_13.out.below h14)
      have t0_14 := Lib.hid (t0_13.out.below h14)
      go_wp2_with fail
      refine (markRes_any t0 (mgL xs0 xs1) _ 1 _ t0_14.out LR0.out (by omega) (by omega)).mono ?_
      rintro e w15 ⟨rfl, hm0, h15⟩
      have z15 := h15.size
      have M0 := Lib.hid hm0
      clear hm0
      have B15 := Lib.hid (B14.out.grown h15 B14.out.size (fun k hk => by have := Lt0.out k hk; omega))
      have zb15 := B15.out.size
      have u0_15 := Lib.hid (u0_14.out.other h15 (fun k hk e => by have := Lu0.out k hk; have := Lt0.out k e.symm; omega))
      go_wp2_with fail
      refine (heldBookS_any t0 (mgL xs0 xs1).length 1 _ LR0.out (by omega) (by omega) M0.out.slice).mono ?_
      rintro e w' ⟨rfl, rfl⟩
      go_wp2_with fail
      refine (toBookS_any _ xs0 _ (SL0.out.below B15.out) hn0).mono ?_
      rintro e w16 ⟨g6, rfl, lo6, hr6, h16⟩
      have z16 := h16.size
      have B16 := Lib.hid (bnext B15.out h16)
      have zb16 := B16.out.size
      have u0_16 := Lib.hid (u0_15.out.below h16)
      have m0_16 := Lib.hid (M0.out.below h16)
      have P6 := Lib.hid hr6
      have hi6 := hr6.lt
      clear hr6
      go_wp2_with fail
      refine (toBookS_any _ xs1 _ (SL1.out.below B16.out) hn1).mono ?_
      rintro e w17 ⟨g7, rfl, lo7, hr7, h17⟩
      have z17 := h17.size
      have B17 := Lib.hid (bnext B16.out h17)
      have zb17 := B17.out.size
      have u0_17 := Lib.hid (u0_16.out.below h17)
      have m0_17 := Lib.hid (m0_16.out.below h17)
      have p0_17 := Lib.hid (P6.out.below h17 P6.out.lt)
      have P7 := Lib.hid hr7
      have hi7 := hr7.lt
      clear hr7
      go_wp2_with fail
      refine (mergeBooks_any _ _ _ _ _ _ xs0 xs1 WF0.out WF1.out _ s i y (HE.out.below B17.out) (Row.slice p0_17.out) (Row.slice P7.out) (RowK.lt p0_17.out) (RowK.lt P7.out) hn0 hn1).mono ?_
      rintro e w18 ⟨v0, rfl, hv0, h18⟩
      have z18 := h18.size
      have B18 := Lib.hid (bnext B17.out h18)
      have zb18 := B18.out.size
      have u0_18 := Lib.hid (u0_17.out.below h18)
      have m0_18 := Lib.hid (m0_17.out.below h18)
      have p0_18 := Lib.hid (p0_17.out.below h18 p0_17.out.lt)
      have p1_18 := Lib.hid (P7.out.below h18 P7.out.lt)
      have Fv0 := Lib.hid hv0
      have Lv0 := Lib.hid Fv0.out.lt
      clear hv0
      rw [HRC1.out]
      go_wp2_with fail
      refine (eqBookS_same _ _ (mgL xs0 xs1) _ Fv0.out.slice u0_18.out.slice LM0.out).mono ?_
      rintro e w19 ⟨rfl, h19⟩
      have z19 := h19.size
      have B19 := Lib.hid (bnext B18.out h19)
      have zb19 := B19.out.size
      have u0_19 := Lib.hid (u0_18.out.below h19)
      have m0_19 := Lib.hid (m0_18.out.below h19)
      have v0_19 := Lib.hid (Fv0.out.below h19)
      go_wp2_with fail
      refine (heldBookS_any t0 (mgL xs0 xs1).length 1 _ LR0.out (by omega) (by omega) m0_19.out.slice).mono ?_
      rintro e w' ⟨rfl, rfl⟩
      go_wp2
      go_ret
      exact ⟨rfl, B19.out⟩
    · have e1 : (1048576 - (xs0.length : Int) - (xs1.length : Int) < 0) := by omega
      go_enter Tryd.func5, Tryd.ntmps5
      go_wp2_with fail
      refine (szBookS_left _ _ _ _ _ mx0 (by omega) (by omega)).mono ?_
      rintro e w' ⟨rfl, rfl⟩
      rw [if_pos (by omega)]
      go_wp2_with fail
      refine (szBookS_left _ _ _ _ _ mx1 (by omega) (by omega)).mono ?_
      rintro e w' ⟨rfl, rfl⟩
      rw [if_neg (by omega)]
      go_wp2
      go_ret
      exact ⟨rfl, Below.refl _ _⟩
  · have e0 : (1048576 - (xs0.length : Int) < 0) := by omega
    go_enter Tryd.func5, Tryd.ntmps5
    go_wp2_with fail
    refine (szBookS_left _ _ _ _ _ mx0 (by omega) (by omega)).mono ?_
    rintro e w' ⟨rfl, rfl⟩
    rw [if_neg (by omega)]
    go_wp2
    go_ret
    exact ⟨rfl, Below.refl _ _⟩

end Go.Proofs.YteeblpdjpaellaaDoor
