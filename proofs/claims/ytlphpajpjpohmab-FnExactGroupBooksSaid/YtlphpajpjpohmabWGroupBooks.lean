/- The law of GroupBooks, walked. No condition. -/
import Derived.Test.YtlphpajpjpohmabGbk
import Derived.Test.YtlphpajpjpohmabRk
import Derived.Test.YtlphpajpjpohmabResC
import Derived.Deep.RegionHeld3
import Derived.Test.YtlphpajpjpohmabOwnsI
namespace Go.Proofs.Ytlphpajpjpohmab
set_option linter.unusedSimpArgs false
set_option linter.unusedVariables false
set_option maxRecDepth 100000
open Go.RowKit

theorem rowOtherGroupBooks {w w' : World} {g g' : Nat} {xs : List Bk} (h : Row w g xs) (hg : w.grownBy w' (some g')) (hne : g ≠ g') : Row w' g xs := by
  obtain ⟨cs, h1, h2⟩ := h
  exact ⟨cs, (hg.block g (Array.getElem?_eq_some_iff.1 h1).1 (fun e => hne (by injection e))).trans h1, h2⟩
theorem irowOtherGroupBooks {w w' : World} {g g' : Nat} {t : TypeId} {zs : List Int} (h : IRow .i64 t w g zs) (hg : w.grownBy w' (some g')) (hne : g ≠ g') : IRow .i64 t w' g zs := by
  obtain ⟨cs, h1, h2⟩ := h
  exact ⟨cs, (hg.block g (Array.getElem?_eq_some_iff.1 h1).1 (fun e => hne (by injection e))).trans h1, h2⟩

set_option maxHeartbeats 16000000 in
theorem walkGroupBooks (p0 : Pg) (wf0 : p0.Wf) (v1 : Value) (zs1 : List Int) (wf1 : ∀ z ∈ zs1, (Lit.int .i64 z).wf = true) (v2 : Value) (xs2 : List Bk) (wf2 : ∀ b ∈ xs2, b.Wf) (w : World) (sl1 : IntsOf .i64 w v1 zs1) (ml1 : zs1.length ≤ maxLen) (sl2 : SliceOf w v2 xs2) (ml2 : xs2.length ≤ maxLen) :
    Calls Try.prog 6 #[.agg #[.int .i16 p0.lo, .int .i16 p0.st, .int .i16 p0.bo], v1, v2] w fun e w' => e = .returned (.bool true) ∧ Below w.heap.size w w' := by
  have mx1 : zs1.length ≤ 9223372036854775807 := by unfold maxLen at ml1; omega
  have SL1 := Lib.hid sl1
  have WF1 := Lib.hid wf1
  have ML1 := Lib.hid ml1
  obtain ⟨A1, k1, rfl, -⟩ := sl1
  have mx2 : xs2.length ≤ 9223372036854775807 := by unfold maxLen at ml2; omega
  have SL2 := Lib.hid sl2
  have WF2 := Lib.hid wf2
  have ML2 := Lib.hid ml2
  obtain ⟨A2, k2, rfl, -⟩ := sl2
  have WF0 := Lib.hid wf0
  clear wf0
  clear wf1 ml1 wf2 ml2
  by_cases hn1 : (zs1.length : Int) ≤ 1048576
  · have e1 : ¬ ((1048576 : Int) < (zs1.length : Int)) := by omega
    by_cases hn2 : (xs2.length : Int) ≤ 1048576
    · have e2 : ¬ (1048576 - (xs2.length : Int) < 0) := by omega
      go_enter Try.func6, Try.ntmps6
      have h1 := (Below.refl w.heap.size w).alloc (Nat.le_refl _) (.cells #[.int .i16 p0.lo, .int .i16 p0.st, .int .i16 p0.bo] 34)
      have X1 := Lib.hid (heap_alloc_new w (.cells #[.int .i16 p0.lo, .int .i16 p0.st, .int .i16 p0.bo] 34))
      have Y1 := Lib.hid (show w.heap.size < (World.alloc w (.cells #[.int .i16 p0.lo, .int .i16 p0.st, .int .i16 p0.bo] 34)).heap.size by simp)
      go_wp2_with fail
      generalize World.alloc w _ = w1 at X1 h1 Y1 ⊢
      have z1 := h1.size
      have yy1 := Y1.out
      have B1 := Lib.hid h1
      have zb1 := B1.out.size
      refine (szBookS_left _ _ _ _ _ mx2 (by omega) (by omega)).mono ?_
      rintro e w' ⟨rfl, rfl⟩
      rw [if_pos (by omega)]
      replace hn1 : zs1.length ≤ 1048576 := by omega
      replace hn2 : xs2.length ≤ 1048576 := by omega
      have LT0 := Lib.hid (show TBd (gbT p0 zs1 xs2) from gb_bd p0 zs1 xs2)
      have q_a0_0 := cell_of_row w1 _ 0 _ _ _ X1.out
      have q_a0_1 := cell_of_row w1 _ 1 _ _ _ X1.out
      have q_a0_2 := cell_of_row w1 _ 2 _ _ _ X1.out
      simp only [List.getElem?_toArray, List.getElem?_cons_zero, List.getElem?_cons_succ] at q_a0_0 q_a0_1 q_a0_2
      go_wp2_with fail
      refine (toPegs_any p0 _).mono ?_
      rintro e w2 ⟨rfl, h2⟩
      have z2 := h2.size
      clear q_a0_0 q_a0_1 q_a0_2
      have B2 := Lib.hid (bnext B1.out h2)
      have zb2 := B2.out.size
      have a0_2 := Lib.hid ((h2.block _ Y1.out).trans X1.out)
      have a0_2_l := Lib.hid (Nat.lt_of_lt_of_le Y1.out z2)
      go_wp2_with fail
      refine (toInt64S_any _ zs1 _ (SL1.out.below B2.out) hn1).mono ?_
      rintro e w3 ⟨g0, rfl, lo0, hr0, h3⟩
      have z3 := h3.size
      have B3 := Lib.hid (bnext B2.out h3)
      have zb3 := B3.out.size
      have a0_3 := Lib.hid ((h3.block _ a0_2_l.out).trans a0_2.out)
      have a0_3_l := Lib.hid (Nat.lt_of_lt_of_le a0_2_l.out z3)
      have P0 := Lib.hid hr0
      have hi0 := hr0.lt
      clear hr0
      go_wp2_with fail
      refine (toBookS_any _ xs2 _ (SL2.out.below B3.out) hn2).mono ?_
      rintro e w4 ⟨g1, rfl, lo1, hr1, h4⟩
      have z4 := h4.size
      have B4 := Lib.hid (bnext B3.out h4)
      have zb4 := B4.out.size
      have a0_4 := Lib.hid ((h4.block _ a0_3_l.out).trans a0_3.out)
      have a0_4_l := Lib.hid (Nat.lt_of_lt_of_le a0_3_l.out z4)
      have s1_4 := Lib.hid (P0.out.below h4 P0.out.lt)
      have P1 := Lib.hid hr1
      have hi1 := hr1.lt
      clear hr1
      go_wp2_with fail
      refine (specGroupBooks_any p0 WF0.out _ _ zs1 xs2 WF1.out WF2.out _ (IRow.slice s1_4.out) (Row.slice P1.out) ML1.out ML2.out).mono ?_
      rintro e w5 ⟨u0, rfl, hu0, h5⟩
      have z5 := h5.size
      have B5 := Lib.hid (bnext B4.out h5)
      have zb5 := B5.out.size
      have a0_5 := Lib.hid ((h5.block _ a0_4_l.out).trans a0_4.out)
      have a0_5_l := Lib.hid (Nat.lt_of_lt_of_le a0_4_l.out z5)
      have s1_5 := Lib.hid (s1_4.out.below h5 s1_4.out.lt)
      have s2_5 := Lib.hid (P1.out.below h5 P1.out.lt)
      have Fu0 := Lib.hid hu0
      clear hu0
      go_wp2_with fail
      refine (toInt64S_any _ zs1 _ (SL1.out.below B5.out) hn1).mono ?_
      rintro e w6 ⟨g2, rfl, lo2, hr2, h6⟩
      have z6 := h6.size
      have B6 := Lib.hid (bnext B5.out h6)
      have zb6 := B6.out.size
      have a0_6 := Lib.hid ((h6.block _ a0_5_l.out).trans a0_5.out)
      have a0_6_l := Lib.hid (Nat.lt_of_lt_of_le a0_5_l.out z6)
      have u0_6 := Lib.hid (Fu0.out.below h6)
      have P2 := Lib.hid hr2
      have hi2 := hr2.lt
      clear hr2
      go_wp2_with fail
      refine (toBookS_any _ xs2 _ (SL2.out.below B6.out) hn2).mono ?_
      rintro e w7 ⟨g3, rfl, lo3, hr3, h7⟩
      have z7 := h7.size
      have B7 := Lib.hid (bnext B6.out h7)
      have zb7 := B7.out.size
      have a0_7 := Lib.hid ((h7.block _ a0_6_l.out).trans a0_6.out)
      have a0_7_l := Lib.hid (Nat.lt_of_lt_of_le a0_6_l.out z7)
      have u0_7 := Lib.hid (u0_6.out.below h7)
      have x1_7 := Lib.hid (P2.out.below h7 P2.out.lt)
      have P3 := Lib.hid hr3
      have hi3 := hr3.lt
      clear hr3
      have q_a0_0 := cell_of_row w7 _ 0 _ _ _ a0_7.out
      have q_a0_1 := cell_of_row w7 _ 1 _ _ _ a0_7.out
      have q_a0_2 := cell_of_row w7 _ 2 _ _ _ a0_7.out
      simp only [List.getElem?_toArray, List.getElem?_cons_zero, List.getElem?_cons_succ] at q_a0_0 q_a0_1 q_a0_2
      go_wp2_with fail
      refine (toPegs_any p0 _).mono ?_
      rintro e w8 ⟨rfl, h8⟩
      have z8 := h8.size
      clear q_a0_0 q_a0_1 q_a0_2
      have B8 := Lib.hid (bnext B7.out h8)
      have zb8 := B8.out.size
      have a0_8 := Lib.hid ((h8.block _ a0_7_l.out).trans a0_7.out)
      have a0_8_l := Lib.hid (Nat.lt_of_lt_of_le a0_7_l.out z8)
      have u0_8 := Lib.hid (u0_7.out.below h8)
      have x1_8 := Lib.hid (x1_7.out.below h8 x1_7.out.lt)
      have x2_8 := Lib.hid (P3.out.below h8 P3.out.lt)
      go_wp2_with fail
      refine (groupBooks_any p0 WF0.out _ _ zs1 xs2 WF1.out WF2.out _ (IRow.slice x1_8.out) (Row.slice x2_8.out) ML1.out ML2.out).mono ?_
      rintro e w9 ⟨t0, rfl, ht0, h9⟩
      have z9 := h9.size
      have B9 := Lib.hid (bnext B8.out h9)
      have zb9 := B9.out.size
      have a0_9 := Lib.hid ((h9.block _ a0_8_l.out).trans a0_8.out)
      have a0_9_l := Lib.hid (Nat.lt_of_lt_of_le a0_8_l.out z9)
      have u0_9 := Lib.hid (u0_8.out.below h9)
      have x1_9 := Lib.hid (x1_8.out.below h9 x1_8.out.lt)
      have x2_9 := Lib.hid (x2_8.out.below h9 x2_8.out.lt)
      have Ft0 := Lib.hid ht0
      clear ht0
      generalize hrc1 : gcC p0 zs1 xs2 = rc1
      have HRC1 := Lib.hid hrc1
      clear hrc1
      go_wp2_with fail
      refine (eqInt64SS_same _ _ (gbT p0 zs1 xs2) _ Ft0.out.tab u0_9.out.tab LT0.out.row LT0.out.len).mono ?_
      rintro e w10 ⟨rfl, h10⟩
      have z10 := h10.size
      have B10 := Lib.hid (bnext B9.out h10)
      have zb10 := B10.out.size
      have a0_10 := Lib.hid ((h10.block _ a0_9_l.out).trans a0_9.out)
      have a0_10_l := Lib.hid (Nat.lt_of_lt_of_le a0_9_l.out z10)
      have u0_10 := Lib.hid (u0_9.out.below h10)
      have x1_10 := Lib.hid (x1_9.out.below h10 x1_9.out.lt)
      have x2_10 := Lib.hid (x2_9.out.below h10 x2_9.out.lt)
      have t0_10 := Lib.hid (Ft0.out.below h10)
      go_wp2_with fail
      refine (toInt64S_any _ zs1 _ (SL1.out.below B10.out) hn1).mono ?_
      rintro e w11 ⟨g4, rfl, lo4, hr4, h11⟩
      have z11 := h11.size
      have B11 := Lib.hid (bnext B10.out h11)
      have zb11 := B11.out.size
      have a0_11 := Lib.hid ((h11.block _ a0_10_l.out).trans a0_10.out)
      have a0_11_l := Lib.hid (Nat.lt_of_lt_of_le a0_10_l.out z11)
      have u0_11 := Lib.hid (u0_10.out.below h11)
      have x1_11 := Lib.hid (x1_10.out.below h11 x1_10.out.lt)
      have x2_11 := Lib.hid (x2_10.out.below h11 x2_10.out.lt)
      have t0_11 := Lib.hid (t0_10.out.below h11)
      have P4 := Lib.hid hr4
      have hi4 := hr4.lt
      clear hr4
      go_wp2_with fail
      refine (eqInt64S_same' _ _ zs1 _ (IRow.slice x1_11.out) (IRow.slice P4.out) ML1.out).mono ?_
      rintro e w12 ⟨rfl, h12⟩
      have z12 := h12.size
      have B12 := Lib.hid (bnext B11.out h12)
      have zb12 := B12.out.size
      have a0_12 := Lib.hid ((h12.block _ a0_11_l.out).trans a0_11.out)
      have a0_12_l := Lib.hid (Nat.lt_of_lt_of_le a0_11_l.out z12)
      have u0_12 := Lib.hid (u0_11.out.below h12)
      have x1_12 := Lib.hid (x1_11.out.below h12 x1_11.out.lt)
      have x2_12 := Lib.hid (x2_11.out.below h12 x2_11.out.lt)
      have t0_12 := Lib.hid (t0_11.out.below h12)
      have d1_12 := Lib.hid (P4.out.below h12 P4.out.lt)
      go_wp2_with fail
      refine (toBookS_any _ xs2 _ (SL2.out.below B12.out) hn2).mono ?_
      rintro e w13 ⟨g5, rfl, lo5, hr5, h13⟩
      have z13 := h13.size
      have B13 := Lib.hid (bnext B12.out h13)
      have zb13 := B13.out.size
      have a0_13 := Lib.hid ((h13.block _ a0_12_l.out).trans a0_12.out)
      have a0_13_l := Lib.hid (Nat.lt_of_lt_of_le a0_12_l.out z13)
      have u0_13 := Lib.hid (u0_12.out.below h13)
      have x1_13 := Lib.hid (x1_12.out.below h13 x1_12.out.lt)
      have x2_13 := Lib.hid (x2_12.out.below h13 x2_12.out.lt)
      have t0_13 := Lib.hid (t0_12.out.below h13)
      have P5 := Lib.hid hr5
      have hi5 := hr5.lt
      clear hr5
      go_wp2_with fail
      refine (eqBookS_same _ _ xs2 _ (Row.slice x2_13.out) (Row.slice P5.out) ML2.out).mono ?_
      rintro e w14 ⟨rfl, h14⟩
      have z14 := h14.size
      have B14 := Lib.hid (bnext B13.out h14)
      have zb14 := B14.out.size
      have a0_14 := Lib.hid ((h14.block _ a0_13_l.out).trans a0_13.out)
      have a0_14_l := Lib.hid (Nat.lt_of_lt_of_le a0_13_l.out z14)
      have u0_14 := Lib.hid (u0_13.out.below h14)
      have x1_14 := Lib.hid (x1_13.out.below h14 x1_13.out.lt)
      have x2_14 := Lib.hid (x2_13.out.below h14 x2_13.out.lt)
      have t0_14 := Lib.hid (t0_13.out.below h14)
      have d2_14 := Lib.hid (P5.out.below h14 P5.out.lt)
      go_wp2_with fail
      refine (markI64_any _ zs1 1 0 _ hn1 (by omega) (by omega) (IRow.ownsI x1_14.out (Nat.zero_le _) ML1.out)).mono ?_
      rintro e w15 ⟨rfl, -, h15⟩
      have z15 := h15.size
      have h15 : World.grownBy w14 w15 (some g2) := h15
      have B15 := Lib.hid (B14.out.grown h15 B14.out.size (fun k hk => by injection hk with hk; omega))
      have zb15 := B15.out.size
      have a0_15 := Lib.hid ((h15.block _ a0_14_l.out (fun e => by injection e with e; omega)).trans a0_14.out)
      have a0_15_l := Lib.hid (Nat.lt_of_lt_of_le a0_14_l.out z15)
      have u0_15 := Lib.hid (u0_14.out.other h15 (fun k hk => by injection hk with hk; omega))
      have x2_15 := Lib.hid (rowOtherGroupBooks x2_14.out h15 (by have := lo3; have := hi3; omega))
      have t0_15 := Lib.hid (t0_14.out.other h15 (fun k hk => by injection hk with hk; omega))
      generalize hkk15 : 1 + (zs1.length : Int) = kk15
      have kl15 : 0 ≤ kk15 := by omega
      have ku15 : kk15 ≤ 1048577 := by omega
      clear hkk15
      go_wp2_with fail
      refine (markBookS_val g3 xs2.length xs2.length xs2.length kk15 _ (RowG.of x2_15.out) (Nat.le_refl _) hn2 (by omega) (by omega)).mono ?_
      rintro e w16 ⟨rfl, -, h16⟩
      have z16 := h16.size
      have B16 := Lib.hid (B15.out.grown h16 B15.out.size (fun k hk => by injection hk with hk; omega))
      have zb16 := B16.out.size
      have a0_16 := Lib.hid ((h16.block _ a0_15_l.out (fun e => by injection e with e; omega)).trans a0_15.out)
      have a0_16_l := Lib.hid (Nat.lt_of_lt_of_le a0_15_l.out z16)
      have u0_16 := Lib.hid (u0_15.out.other h16 (fun k hk => by injection hk with hk; omega))
      have t0_16 := Lib.hid (t0_15.out.other h16 (fun k hk => by injection hk with hk; omega))
      generalize hkk16 : kk15 + 8 * (xs2.length : Int) = kk16
      have kl16 : 0 ≤ kk16 := by omega
      have ku16 : kk16 ≤ 9437185 := by omega
      clear hkk16
      have kd : decide (kk16 < 0) = false := by simp; omega
      have kd2 : ¬ (kk16 < 0) := by omega
      go_wp2_with fail
      refine (eqInt64SS_same _ _ (gbT p0 zs1 xs2) _ t0_16.out.tab u0_16.out.tab LT0.out.row LT0.out.len).mono ?_
      rintro e w17 ⟨rfl, h17⟩
      have z17 := h17.size
      have B17 := Lib.hid (bnext B16.out h17)
      have zb17 := B17.out.size
      have a0_17 := Lib.hid ((h17.block _ a0_16_l.out).trans a0_16.out)
      have a0_17_l := Lib.hid (Nat.lt_of_lt_of_le a0_16_l.out z17)
      have u0_17 := Lib.hid (u0_16.out.below h17)
      have t0_17 := Lib.hid (t0_16.out.below h17)
      go_wp2_with fail
      refine (markT_any t0 (gbT p0 zs1 xs2) _ _ _ LT0.out t0_17.out (by omega)).mono ?_
      rintro e w18 ⟨rfl, hm0, h18⟩
      have z18 := h18.size
      have M0 := Lib.hid hm0
      clear hm0
      have B18 := Lib.hid (B17.out.trans (h18.mono (by omega)))
      have zb18 := B18.out.size
      have a0_18 := Lib.hid ((h18.block _ (by have := a0_17_l.out; omega)).trans a0_17.out)
      have a0_18_l := Lib.hid (Nat.lt_of_lt_of_le a0_17_l.out z18)
      have u0_18 := Lib.hid (u0_17.out.keep h18 (by omega))
      generalize hmm18 : (1 + (offT (gbT p0 zs1 xs2) (gbT p0 zs1 xs2).length : Int)) = mm18
      have HMM0 := Lib.hid hmm18
      clear hmm18
      have mn18 : ¬ mm18 < 0 := by have := HMM0.out; omega
      go_wp2_with fail
      refine (heldT_any t0 (gbT p0 zs1 xs2) _ LT0.out M0.out.tab).mono ?_
      rintro e w19 ⟨rfl, h19⟩
      have z19 := h19.size
      have B19 := Lib.hid (bnext B18.out h19)
      have zb19 := B19.out.size
      have a0_19 := Lib.hid ((h19.block _ a0_18_l.out).trans a0_18.out)
      have a0_19_l := Lib.hid (Nat.lt_of_lt_of_le a0_18_l.out z19)
      have u0_19 := Lib.hid (u0_18.out.below h19)
      have m0_19 := Lib.hid (M0.out.below h19)
      rw [HMM0.out]
      have q_a0_0 := cell_of_row w19 _ 0 _ _ _ a0_19.out
      have q_a0_1 := cell_of_row w19 _ 1 _ _ _ a0_19.out
      have q_a0_2 := cell_of_row w19 _ 2 _ _ _ a0_19.out
      simp only [List.getElem?_toArray, List.getElem?_cons_zero, List.getElem?_cons_succ] at q_a0_0 q_a0_1 q_a0_2
      go_wp2_with fail
      refine (toPegs_any p0 _).mono ?_
      rintro e w20 ⟨rfl, h20⟩
      have z20 := h20.size
      clear q_a0_0 q_a0_1 q_a0_2
      have B20 := Lib.hid (bnext B19.out h20)
      have zb20 := B20.out.size
      have a0_20 := Lib.hid ((h20.block _ a0_19_l.out).trans a0_19.out)
      have a0_20_l := Lib.hid (Nat.lt_of_lt_of_le a0_19_l.out z20)
      have u0_20 := Lib.hid (u0_19.out.below h20)
      have m0_20 := Lib.hid (m0_19.out.below h20)
      go_wp2_with fail
      refine (toInt64S_any _ zs1 _ (SL1.out.below B20.out) hn1).mono ?_
      rintro e w21 ⟨g6, rfl, lo6, hr6, h21⟩
      have z21 := h21.size
      have B21 := Lib.hid (bnext B20.out h21)
      have zb21 := B21.out.size
      have a0_21 := Lib.hid ((h21.block _ a0_20_l.out).trans a0_20.out)
      have a0_21_l := Lib.hid (Nat.lt_of_lt_of_le a0_20_l.out z21)
      have u0_21 := Lib.hid (u0_20.out.below h21)
      have m0_21 := Lib.hid (m0_20.out.below h21)
      have P6 := Lib.hid hr6
      have hi6 := hr6.lt
      clear hr6
      go_wp2_with fail
      refine (toBookS_any _ xs2 _ (SL2.out.below B21.out) hn2).mono ?_
      rintro e w22 ⟨g7, rfl, lo7, hr7, h22⟩
      have z22 := h22.size
      have B22 := Lib.hid (bnext B21.out h22)
      have zb22 := B22.out.size
      have a0_22 := Lib.hid ((h22.block _ a0_21_l.out).trans a0_21.out)
      have a0_22_l := Lib.hid (Nat.lt_of_lt_of_le a0_21_l.out z22)
      have u0_22 := Lib.hid (u0_21.out.below h22)
      have m0_22 := Lib.hid (m0_21.out.below h22)
      have p1_22 := Lib.hid (P6.out.below h22 P6.out.lt)
      have P7 := Lib.hid hr7
      have hi7 := hr7.lt
      clear hr7
      go_wp2_with fail
      refine (groupBooks_any p0 WF0.out _ _ zs1 xs2 WF1.out WF2.out _ (IRow.slice p1_22.out) (Row.slice P7.out) ML1.out ML2.out).mono ?_
      rintro e w23 ⟨v0, rfl, hv0, h23⟩
      have z23 := h23.size
      have B23 := Lib.hid (bnext B22.out h23)
      have zb23 := B23.out.size
      have a0_23 := Lib.hid ((h23.block _ a0_22_l.out).trans a0_22.out)
      have a0_23_l := Lib.hid (Nat.lt_of_lt_of_le a0_22_l.out z23)
      have u0_23 := Lib.hid (u0_22.out.below h23)
      have m0_23 := Lib.hid (m0_22.out.below h23)
      have p1_23 := Lib.hid (p1_22.out.below h23 p1_22.out.lt)
      have p2_23 := Lib.hid (P7.out.below h23 P7.out.lt)
      have Fv0 := Lib.hid hv0
      clear hv0
      rw [HRC1.out]
      go_wp2_with fail
      refine (eqInt64SS_same _ _ (gbT p0 zs1 xs2) _ Fv0.out.tab u0_23.out.tab LT0.out.row LT0.out.len).mono ?_
      rintro e w24 ⟨rfl, h24⟩
      have z24 := h24.size
      have B24 := Lib.hid (bnext B23.out h24)
      have zb24 := B24.out.size
      have a0_24 := Lib.hid ((h24.block _ a0_23_l.out).trans a0_23.out)
      have a0_24_l := Lib.hid (Nat.lt_of_lt_of_le a0_23_l.out z24)
      have u0_24 := Lib.hid (u0_23.out.below h24)
      have m0_24 := Lib.hid (m0_23.out.below h24)
      have v0_24 := Lib.hid (Fv0.out.below h24)
      go_wp2_with fail
      refine (heldT_any t0 (gbT p0 zs1 xs2) _ LT0.out m0_24.out.tab).mono ?_
      rintro e w25 ⟨rfl, h25⟩
      have z25 := h25.size
      have B25 := Lib.hid (bnext B24.out h25)
      have zb25 := B25.out.size
      have a0_25 := Lib.hid ((h25.block _ a0_24_l.out).trans a0_24.out)
      have a0_25_l := Lib.hid (Nat.lt_of_lt_of_le a0_24_l.out z25)
      have u0_25 := Lib.hid (u0_24.out.below h25)
      have m0_25 := Lib.hid (m0_24.out.below h25)
      have v0_25 := Lib.hid (v0_24.out.below h25)
      rw [HMM0.out]
      go_wp2
      go_ret
      exact ⟨rfl, B25.out⟩
    · have e2 : (1048576 - (xs2.length : Int) < 0) := by omega
      go_enter Try.func6, Try.ntmps6
      have h1 := (Below.refl w.heap.size w).alloc (Nat.le_refl _) (.cells #[.int .i16 p0.lo, .int .i16 p0.st, .int .i16 p0.bo] 34)
      have X1 := Lib.hid (heap_alloc_new w (.cells #[.int .i16 p0.lo, .int .i16 p0.st, .int .i16 p0.bo] 34))
      have Y1 := Lib.hid (show w.heap.size < (World.alloc w (.cells #[.int .i16 p0.lo, .int .i16 p0.st, .int .i16 p0.bo] 34)).heap.size by simp)
      go_wp2_with fail
      generalize World.alloc w _ = w1 at X1 h1 Y1 ⊢
      have z1 := h1.size
      have yy1 := Y1.out
      have B1 := Lib.hid h1
      have zb1 := B1.out.size
      refine (szBookS_left _ _ _ _ _ mx2 (by omega) (by omega)).mono ?_
      rintro e w' ⟨rfl, rfl⟩
      rw [if_neg (by omega)]
      go_wp2
      go_ret
      exact ⟨rfl, B1.out⟩
  · have e1 : (1048576 : Int) < (zs1.length : Int) := by omega
    go_enter Try.func6, Try.ntmps6
    go_wp2
    go_ret
    exact ⟨rfl, by go_grown⟩

end Go.Proofs.Ytlphpajpjpohmab
