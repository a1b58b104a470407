/- The law of HeightsOf, walked. No condition. -/
import Derived.Test.YtjeflpohokjjkaaHoI
import Derived.Deep.RegionHeld3
import Derived.Test.YtjeflpohokjjkaaOwnsI
namespace Go.Proofs.Ytjeflpohokjjkaa
set_option linter.unusedSimpArgs false
set_option linter.unusedVariables false
set_option maxRecDepth 100000
open Go.RowKit

theorem rowOtherHeightsOf {w w' : World} {g g' : Nat} {xs : List Bk} (h : Row w g xs) (hg : w.grownBy w' (some g')) (hne : g ≠ g') : Row w' g xs := by
  obtain ⟨cs, h1, h2⟩ := h
  exact ⟨cs, (hg.block g (Array.getElem?_eq_some_iff.1 h1).1 (fun e => hne (by injection e))).trans h1, h2⟩
theorem irowOtherHeightsOf {w w' : World} {g g' : Nat} {t : TypeId} {zs : List Int} (h : IRow .i64 t w g zs) (hg : w.grownBy w' (some g')) (hne : g ≠ g') : IRow .i64 t w' g zs := by
  obtain ⟨cs, h1, h2⟩ := h
  exact ⟨cs, (hg.block g (Array.getElem?_eq_some_iff.1 h1).1 (fun e => hne (by injection e))).trans h1, h2⟩

set_option maxHeartbeats 16000000 in
theorem walkHeightsOf (p0 : Pg) (wf0 : p0.Wf) (v1 : Value) (xs1 : List Bk) (wf1 : ∀ b ∈ xs1, b.Wf) (w : World) (sl1 : SliceOf w v1 xs1) (ml1 : xs1.length ≤ maxLen) :
    Calls Try.prog 3 #[.agg #[.int .i16 p0.lo, .int .i16 p0.st, .int .i16 p0.bo], v1] w fun e w' => e = .returned (.bool true) ∧ Below w.heap.size w w' := by
  have mx1 : xs1.length ≤ 9223372036854775807 := by unfold maxLen at ml1; omega
  have SL1 := Lib.hid sl1
  have WF1 := Lib.hid wf1
  have ML1 := Lib.hid ml1
  obtain ⟨A1, k1, rfl, -⟩ := sl1
  have WF0 := Lib.hid wf0
  clear wf0
  clear wf1 ml1
  by_cases hn1 : (xs1.length : Int) ≤ 1048576
  · have e1 : ¬ (1048576 - (xs1.length : Int) < 0) := by omega
    go_enter Try.func3, Try.ntmps3
    have h1 := (Below.refl w.heap.size w).alloc (Nat.le_refl _) (.cells #[.int .i16 p0.lo, .int .i16 p0.st, .int .i16 p0.bo] 24)
    have X1 := Lib.hid (heap_alloc_new w (.cells #[.int .i16 p0.lo, .int .i16 p0.st, .int .i16 p0.bo] 24))
    have Y1 := Lib.hid (show w.heap.size < (World.alloc w (.cells #[.int .i16 p0.lo, .int .i16 p0.st, .int .i16 p0.bo] 24)).heap.size by simp)
    go_wp2_with fail
    generalize World.alloc w _ = w1 at X1 h1 Y1 ⊢
    have z1 := h1.size
    have yy1 := Y1.out
    have B1 := Lib.hid h1
    have zb1 := B1.out.size
    refine (szBookS_left _ _ _ _ _ mx1 (by omega) (by omega)).mono ?_
    rintro e w' ⟨rfl, rfl⟩
    rw [if_pos (by omega)]
    replace hn1 : xs1.length ≤ 1048576 := by omega
    have LR0 := Lib.hid (show (hoL p0 xs1).length ≤ 1048576 from (Nat.le_trans (hoL_len p0 xs1) (by omega)))
    have LM0 := Lib.hid (show (hoL p0 xs1).length ≤ maxLen from Nat.le_trans LR0.out (by unfold maxLen; omega))
    have q_a0_0 := cell_of_row w1 _ 0 _ _ _ X1.out
    have q_a0_1 := cell_of_row w1 _ 1 _ _ _ X1.out
    have q_a0_2 := cell_of_row w1 _ 2 _ _ _ X1.out
    simp only [List.getElem?_toArray, List.getElem?_cons_zero, List.getElem?_cons_succ] at q_a0_0 q_a0_1 q_a0_2
    go_wp2_with fail
    refine (toPegs_any p0 _).mono ?_
    rintro e w2 ⟨rfl, h2⟩
    have z2 := h2.size
    clear q_a0_0 q_a0_1 q_a0_2
    have B2 := Lib.hid (bnext B1.out h2)
    have zb2 := B2.out.size
    have a0_2 := Lib.hid ((h2.block _ Y1.out).trans X1.out)
    have a0_2_l := Lib.hid (Nat.lt_of_lt_of_le Y1.out z2)
    go_wp2_with fail
    refine (toBookS_any _ xs1 _ (SL1.out.below B2.out) hn1).mono ?_
    rintro e w3 ⟨g0, rfl, lo0, hr0, h3⟩
    have z3 := h3.size
    have B3 := Lib.hid (bnext B2.out h3)
    have zb3 := B3.out.size
    have a0_3 := Lib.hid ((h3.block _ a0_2_l.out).trans a0_2.out)
    have a0_3_l := Lib.hid (Nat.lt_of_lt_of_le a0_2_l.out z3)
    have P0 := Lib.hid hr0
    have hi0 := hr0.lt
    clear hr0
    go_wp2_with fail
    refine (specHeightsOf_any p0 WF0.out _ xs1 WF1.out _ (Row.slice P0.out) ML1.out).mono ?_
    rintro e w4 ⟨u0, rfl, hu0, h4⟩
    have z4 := h4.size
    have B4 := Lib.hid (bnext B3.out h4)
    have zb4 := B4.out.size
    have a0_4 := Lib.hid ((h4.block _ a0_3_l.out).trans a0_3.out)
    have a0_4_l := Lib.hid (Nat.lt_of_lt_of_le a0_3_l.out z4)
    have s1_4 := Lib.hid (P0.out.below h4 P0.out.lt)
    have Fu0 := Lib.hid hu0
    have Lu0 := Lib.hid Fu0.out.lt
    clear hu0
    go_wp2_with fail
    refine (toBookS_any _ xs1 _ (SL1.out.below B4.out) hn1).mono ?_
    rintro e w5 ⟨g1, rfl, lo1, hr1, h5⟩
    have z5 := h5.size
    have B5 := Lib.hid (bnext B4.out h5)
    have zb5 := B5.out.size
    have a0_5 := Lib.hid ((h5.block _ a0_4_l.out).trans a0_4.out)
    have a0_5_l := Lib.hid (Nat.lt_of_lt_of_le a0_4_l.out z5)
    have u0_5 := Lib.hid (ownBelow Fu0.out h5)
    have P1 := Lib.hid hr1
    have hi1 := hr1.lt
    clear hr1
    have q_a0_0 := cell_of_row w5 _ 0 _ _ _ a0_5.out
    have q_a0_1 := cell_of_row w5 _ 1 _ _ _ a0_5.out
    have q_a0_2 := cell_of_row w5 _ 2 _ _ _ a0_5.out
    simp only [List.getElem?_toArray, List.getElem?_cons_zero, List.getElem?_cons_succ] at q_a0_0 q_a0_1 q_a0_2
    go_wp2_with fail
    refine (toPegs_any p0 _).mono ?_
    rintro e w6 ⟨rfl, h6⟩
    have z6 := h6.size
    clear q_a0_0 q_a0_1 q_a0_2
    have B6 := Lib.hid (bnext B5.out h6)
    have zb6 := B6.out.size
    have a0_6 := Lib.hid ((h6.block _ a0_5_l.out).trans a0_5.out)
    have a0_6_l := Lib.hid (Nat.lt_of_lt_of_le a0_5_l.out z6)
    have u0_6 := Lib.hid (ownBelow u0_5.out h6)
    have x1_6 := Lib.hid (P1.out.below h6 P1.out.lt)
    go_wp2_with fail
    refine (heightsOf_any p0 WF0.out _ xs1 _ (Row.slice x1_6.out) ML1.out).mono ?_
    rintro e w7 ⟨t0, rfl, ht0, h7⟩
    have z7 := h7.size
    have B7 := Lib.hid (bnext B6.out h7)
    have zb7 := B7.out.size
    have a0_7 := Lib.hid ((h7.block _ a0_6_l.out).trans a0_6.out)
    have a0_7_l := Lib.hid (Nat.lt_of_lt_of_le a0_6_l.out z7)
    have u0_7 := Lib.hid (ownBelow u0_6.out h7)
    have x1_7 := Lib.hid (x1_6.out.below h7 x1_6.out.lt)
    have Ft0 := Lib.hid ht0
    have Lt0 := Lib.hid Ft0.out.lt
    clear ht0
    generalize hrc1 : hoC p0 xs1 = rc1
    have HRC1 := Lib.hid hrc1
    clear hrc1
    go_wp2_with fail
    refine (eqInt64S_same' _ _ (hoL p0 xs1) _ (ownInts Ft0.out) (ownInts u0_7.out) LM0.out).mono ?_
    rintro e w8 ⟨rfl, h8⟩
    have z8 := h8.size
    have B8 := Lib.hid (bnext B7.out h8)
    have zb8 := B8.out.size
    have a0_8 := Lib.hid ((h8.block _ a0_7_l.out).trans a0_7.out)
    have a0_8_l := Lib.hid (Nat.lt_of_lt_of_le a0_7_l.out z8)
    have u0_8 := Lib.hid (ownBelow u0_7.out h8)
    have x1_8 := Lib.hid (x1_7.out.below h8 x1_7.out.lt)
    have t0_8 := Lib.hid (ownBelow Ft0.out h8)
    go_wp2_with fail
    refine (toBookS_any _ xs1 _ (SL1.out.below B8.out) hn1).mono ?_
    rintro e w9 ⟨g2, rfl, lo2, hr2, h9⟩
    have z9 := h9.size
    have B9 := Lib.hid (bnext B8.out h9)
    have zb9 := B9.out.size
    have a0_9 := Lib.hid ((h9.block _ a0_8_l.out).trans a0_8.out)
    have a0_9_l := Lib.hid (Nat.lt_of_lt_of_le a0_8_l.out z9)
    have u0_9 := Lib.hid (ownBelow u0_8.out h9)
    have x1_9 := Lib.hid (x1_8.out.below h9 x1_8.out.lt)
    have t0_9 := Lib.hid (ownBelow t0_8.out h9)
    have P2 := Lib.hid hr2
    have hi2 := hr2.lt
    clear hr2
    go_wp2_with fail
    refine (eqBookS_same _ _ xs1 _ (Row.slice x1_9.out) (Row.slice P2.out) ML1.out).mono ?_
    rintro e w10 ⟨rfl, h10⟩
    have z10 := h10.size
    have B10 := Lib.hid (bnext B9.out h10)
    have zb10 := B10.out.size
    have a0_10 := Lib.hid ((h10.block _ a0_9_l.out).trans a0_9.out)
    have a0_10_l := Lib.hid (Nat.lt_of_lt_of_le a0_9_l.out z10)
    have u0_10 := Lib.hid (ownBelow u0_9.out h10)
    have x1_10 := Lib.hid (x1_9.out.below h10 x1_9.out.lt)
    have t0_10 := Lib.hid (ownBelow t0_9.out h10)
    have d1_10 := Lib.hid (P2.out.below h10 P2.out.lt)
    go_wp2_with fail
    refine (markBookS_val g1 xs1.length xs1.length xs1.length 1 _ (RowG.of x1_10.out) (Nat.le_refl _) hn1 (by omega) (by omega)).mono ?_
    rintro e w11 ⟨rfl, -, h11⟩
    have z11 := h11.size
    have B11 := Lib.hid (B10.out.grown h11 B10.out.size (fun k hk => by injection hk with hk; omega))
    have zb11 := B11.out.size
    have a0_11 := Lib.hid ((h11.block _ a0_10_l.out (fun e => by injection e with e; omega)).trans a0_10.out)
    have a0_11_l := Lib.hid (Nat.lt_of_lt_of_le a0_10_l.out z11)
    have u0_11 := Lib.hid (ownOther u0_10.out h11 (fun k hk e => by have := Lu0.out k hk; first | (injection e with e; omega) | omega))
    have t0_11 := Lib.hid (ownOther t0_10.out h11 (fun k hk e => by have := Lt0.out k hk; first | (injection e with e; omega) | omega))
    generalize hkk11 : 1 + 8 * (xs1.length : Int) = kk11
    have kl11 : 0 ≤ kk11 := by omega
    have ku11 : kk11 ≤ 8388609 := by omega
    clear hkk11
    have kd : decide (kk11 < 0) = false := by simp; omega
    have kd2 : ¬ (kk11 < 0) := by omega
    go_wp2_with fail
    refine (eqInt64S_same' _ _ (hoL p0 xs1) _ (ownInts t0_11.out) (ownInts u0_11.out) LM0.out).mono ?_
    rintro e w12 ⟨rfl, h12⟩
    have z12 := h12.size
    have B12 := Lib.hid (bnext B11.out h12)
    have zb12 := B12.out.size
    have a0_12 := Lib.hid ((h12.block _ a0_11_l.out).trans a0_11.out)
    have a0_12_l := Lib.hid (Nat.lt_of_lt_of_le a0_11_l.out z12)
    have u0_12 := Lib.hid (ownBelow u0_11.out h12)
    have t0_12 := Lib.hid (ownBelow t0_11.out h12)
    go_wp2_with fail
    refine (markI64_any t0 (hoL p0 xs1) 1 _ _ LR0.out (by omega) (by omega) t0_12.out).mono ?_
    rintro e w13 ⟨rfl, hm0, h13⟩
    have z13 := h13.size
    have M0 := Lib.hid hm0
    clear hm0
    have B13 := Lib.hid (B12.out.grown h13 B12.out.size (fun k hk => by have := Lt0.out k hk; omega))
    have zb13 := B13.out.size
    have a0_13 := Lib.hid ((h13.block _ a0_12_l.out (fun e => by have := Lt0.out _ e.symm; omega)).trans a0_12.out)
    have a0_13_l := Lib.hid (Nat.lt_of_lt_of_le a0_12_l.out z13)
    have u0_13 := Lib.hid (ownOther u0_12.out h13 (fun k hk e => by have := Lu0.out k hk; have := Lt0.out k e.symm; omega))
    go_wp2_with fail
    refine (heldI64_any t0 (hoL p0 xs1) 1 _ LR0.out (by omega) (by omega) (ownInts M0.out)).mono ?_
    rintro e w14 ⟨rfl, h14⟩
    have z14 := h14.size
    have B14 := Lib.hid (bnext B13.out h14)
    have zb14 := B14.out.size
    have a0_14 := Lib.hid ((h14.block _ a0_13_l.out).trans a0_13.out)
    have a0_14_l := Lib.hid (Nat.lt_of_lt_of_le a0_13_l.out z14)
    have u0_14 := Lib.hid (ownBelow u0_13.out h14)
    have m0_14 := Lib.hid (ownBelow M0.out h14)
    have q_a0_0 := cell_of_row w14 _ 0 _ _ _ a0_14.out
    have q_a0_1 := cell_of_row w14 _ 1 _ _ _ a0_14.out
    have q_a0_2 := cell_of_row w14 _ 2 _ _ _ a0_14.out
    simp only [List.getElem?_toArray, List.getElem?_cons_zero, List.getElem?_cons_succ] at q_a0_0 q_a0_1 q_a0_2
    go_wp2_with fail
    refine (toPegs_any p0 _).mono ?_
    rintro e w15 ⟨rfl, h15⟩
    have z15 := h15.size
    clear q_a0_0 q_a0_1 q_a0_2
    have B15 := Lib.hid (bnext B14.out h15)
    have zb15 := B15.out.size
    have a0_15 := Lib.hid ((h15.block _ a0_14_l.out).trans a0_14.out)
    have a0_15_l := Lib.hid (Nat.lt_of_lt_of_le a0_14_l.out z15)
    have u0_15 := Lib.hid (ownBelow u0_14.out h15)
    have m0_15 := Lib.hid (ownBelow m0_14.out h15)
    go_wp2_with fail
    refine (toBookS_any _ xs1 _ (SL1.out.below B15.out) hn1).mono ?_
    rintro e w16 ⟨g3, rfl, lo3, hr3, h16⟩
    have z16 := h16.size
    have B16 := Lib.hid (bnext B15.out h16)
    have zb16 := B16.out.size
    have a0_16 := Lib.hid ((h16.block _ a0_15_l.out).trans a0_15.out)
    have a0_16_l := Lib.hid (Nat.lt_of_lt_of_le a0_15_l.out z16)
    have u0_16 := Lib.hid (ownBelow u0_15.out h16)
    have m0_16 := Lib.hid (ownBelow m0_15.out h16)
    have P3 := Lib.hid hr3
    have hi3 := hr3.lt
    clear hr3
    go_wp2_with fail
    refine (heightsOf_any p0 WF0.out _ xs1 _ (Row.slice P3.out) ML1.out).mono ?_
    rintro e w17 ⟨v0, rfl, hv0, h17⟩
    have z17 := h17.size
    have B17 := Lib.hid (bnext B16.out h17)
    have zb17 := B17.out.size
    have a0_17 := Lib.hid ((h17.block _ a0_16_l.out).trans a0_16.out)
    have a0_17_l := Lib.hid (Nat.lt_of_lt_of_le a0_16_l.out z17)
    have u0_17 := Lib.hid (ownBelow u0_16.out h17)
    have m0_17 := Lib.hid (ownBelow m0_16.out h17)
    have p1_17 := Lib.hid (P3.out.below h17 P3.out.lt)
    have Fv0 := Lib.hid hv0
    have Lv0 := Lib.hid Fv0.out.lt
    clear hv0
    rw [HRC1.out]
    go_wp2_with fail
    refine (eqInt64S_same' _ _ (hoL p0 xs1) _ (ownInts Fv0.out) (ownInts u0_17.out) LM0.out).mono ?_
    rintro e w18 ⟨rfl, h18⟩
    have z18 := h18.size
    have B18 := Lib.hid (bnext B17.out h18)
    have zb18 := B18.out.size
    have a0_18 := Lib.hid ((h18.block _ a0_17_l.out).trans a0_17.out)
    have a0_18_l := Lib.hid (Nat.lt_of_lt_of_le a0_17_l.out z18)
    have u0_18 := Lib.hid (ownBelow u0_17.out h18)
    have m0_18 := Lib.hid (ownBelow m0_17.out h18)
    have v0_18 := Lib.hid (ownBelow Fv0.out h18)
    go_wp2_with fail
    refine (heldI64_any t0 (hoL p0 xs1) 1 _ LR0.out (by omega) (by omega) (ownInts m0_18.out)).mono ?_
    rintro e w19 ⟨rfl, h19⟩
    have z19 := h19.size
    have B19 := Lib.hid (bnext B18.out h19)
    have zb19 := B19.out.size
    have a0_19 := Lib.hid ((h19.block _ a0_18_l.out).trans a0_18.out)
    have a0_19_l := Lib.hid (Nat.lt_of_lt_of_le a0_18_l.out z19)
    have u0_19 := Lib.hid (ownBelow u0_18.out h19)
    have m0_19 := Lib.hid (ownBelow m0_18.out h19)
    have v0_19 := Lib.hid (ownBelow v0_18.out h19)
    go_wp2
    go_ret
    exact ⟨rfl, B19.out⟩
  · have e1 : (1048576 - (xs1.length : Int) < 0) := by omega
    go_enter Try.func3, Try.ntmps3
    have h1 := (Below.refl w.heap.size w).alloc (Nat.le_refl _) (.cells #[.int .i16 p0.lo, .int .i16 p0.st, .int .i16 p0.bo] 24)
    have X1 := Lib.hid (heap_alloc_new w (.cells #[.int .i16 p0.lo, .int .i16 p0.st, .int .i16 p0.bo] 24))
    have Y1 := Lib.hid (show w.heap.size < (World.alloc w (.cells #[.int .i16 p0.lo, .int .i16 p0.st, .int .i16 p0.bo] 24)).heap.size by simp)
    go_wp2_with fail
    generalize World.alloc w _ = w1 at X1 h1 Y1 ⊢
    have z1 := h1.size
    have yy1 := Y1.out
    have B1 := Lib.hid h1
    have zb1 := B1.out.size
    refine (szBookS_left _ _ _ _ _ mx1 (by omega) (by omega)).mono ?_
    rintro e w' ⟨rfl, rfl⟩
    rw [if_neg (by omega)]
    go_wp2
    go_ret
    exact ⟨rfl, B1.out⟩

end Go.Proofs.Ytjeflpohokjjkaa
