/- The law of FillRack, walked. Condition: the three error variables hold three different errors of errors.New's make. -/
import Derived.Test.YtlphpajpjpohmaaDoorRkV
import Derived.Test.YtlphpajpjpohmaaDoorRk
import Derived.Deep.RegionHeld3
namespace Go.Proofs.YtlphpajpjpohmaaDoor
set_option linter.unusedSimpArgs false
set_option linter.unusedVariables false
set_option maxRecDepth 100000
open Go.RowKit

set_option maxHeartbeats 16000000 in
theorem walkFillRack (a0 : Int) (wf0 : (Lit.int .i64 a0).wf = true) (v1 : Value) (xs1 : List Bk) (wf1 : ∀ b ∈ xs1, b.Wf) (w : World) (s i y : Addr) (he : Errs w s i y) (sl1 : SliceOf w v1 xs1) (ml1 : xs1.length ≤ maxLen) :
    Calls Tryd.prog 11 #[.int .i64 a0, v1] w fun e w' => e = .returned (.bool true) ∧ Below w.heap.size w w' := by
  have mx1 : xs1.length ≤ 9223372036854775807 := by unfold maxLen at ml1; omega
  have SL1 := Lib.hid sl1
  have WF1 := Lib.hid wf1
  have ML1 := Lib.hid ml1
  obtain ⟨A1, k1, rfl, -⟩ := sl1
  have WI0 := Lib.hid wf0
  have HE := Lib.hid he
  clear wf1 ml1 wf0 he
  by_cases hn1 : (xs1.length : Int) ≤ 1048576
  · have e1 : ¬ (1048576 - (xs1.length : Int) < 0) := by omega
    go_enter Tryd.func11, Tryd.ntmps11
    go_wp2_with fail
    refine (szBookS_left _ _ _ _ _ mx1 (by omega) (by omega)).mono ?_
    rintro e w' ⟨rfl, rfl⟩
    rw [if_pos (by omega)]
    replace hn1 : xs1.length ≤ 1048576 := by omega
    have LR0 := Lib.hid (show (frL a0 xs1).length ≤ 1048576 from Nat.le_trans (frL_len a0 xs1) hn1)
    have LM0 := Lib.hid (show (frL a0 xs1).length ≤ maxLen from Nat.le_trans LR0.out (by unfold maxLen; omega))
    go_wp2_with fail
    refine (toBookS_any _ xs1 _ (SL1.out) hn1).mono ?_
    rintro e w1 ⟨g0, rfl, lo0, hr0, h1⟩
    have z1 := h1.size
    have B1 := Lib.hid h1
    have zb1 := B1.out.size
    have P0 := Lib.hid hr0
    have hi0 := hr0.lt
    clear hr0
    go_wp2_with fail
    refine (specFillRack_any a0 _ xs1 WF1.out _ (Row.slice P0.out) ML1.out).mono ?_
    rintro e w2 ⟨u0, rfl, hu0, h2⟩
    have z2 := h2.size
    have B2 := Lib.hid (bnext B1.out h2)
    have zb2 := B2.out.size
    have s1_2 := Lib.hid (P0.out.below h2 P0.out.lt)
    obtain ⟨Au0, nu0, ku0, rfl⟩ := hu0.form
    have Fu0 := Lib.hid hu0
    have Lu0 := Lib.hid Fu0.out.lt
    clear hu0
    have h3 := (Below.refl w2.heap.size w2).alloc (Nat.le_refl _) (.cells #[.int .i16 (frN a0 xs1), (.slice Au0 nu0 ku0)] 30)
    have X3 := Lib.hid (heap_alloc_new w2 (.cells #[.int .i16 (frN a0 xs1), (.slice Au0 nu0 ku0)] 30))
    have Y3 := Lib.hid (show w2.heap.size < (World.alloc w2 (.cells #[.int .i16 (frN a0 xs1), (.slice Au0 nu0 ku0)] 30)).heap.size by simp)
    go_wp2_with fail
    generalize World.alloc w2 _ = w3 at X3 h3 Y3 ⊢
    have z3 := h3.size
    have yy3 := Y3.out
    have B3 := Lib.hid (bnext B2.out h3)
    have zb3 := B3.out.size
    have u0_3 := Lib.hid (Fu0.out.below h3)
    refine (toBookS_any _ xs1 _ (SL1.out.below B3.out) hn1).mono ?_
    rintro e w4 ⟨g1, rfl, lo1, hr1, h4⟩
    have z4 := h4.size
    have B4 := Lib.hid (bnext B3.out h4)
    have zb4 := B4.out.size
    have u0_4 := Lib.hid (u0_3.out.below h4)
    have ub0_4 := Lib.hid ((h4.block _ Y3.out).trans X3.out)
    have ub0_4_l := Lib.hid (Nat.lt_of_lt_of_le Y3.out z4)
    have P1 := Lib.hid hr1
    have hi1 := hr1.lt
    clear hr1
    go_wp2_with fail
    refine (fillRack_any a0 _ xs1 WF1.out _ s i y (HE.out.below B4.out) (Row.slice P1.out) hn1).mono ?_
    rintro e w5 ⟨t0, rfl, ht0, h5⟩
    have z5 := h5.size
    have B5 := Lib.hid (bnext B4.out h5)
    have zb5 := B5.out.size
    have u0_5 := Lib.hid (u0_4.out.below h5)
    have ub0_5 := Lib.hid ((h5.block _ ub0_4_l.out).trans ub0_4.out)
    have ub0_5_l := Lib.hid (Nat.lt_of_lt_of_le ub0_4_l.out z5)
    have x1_5 := Lib.hid (P1.out.below h5 P1.out.lt)
    obtain ⟨At0, nt0, kt0, rfl⟩ := ht0.form
    have Ft0 := Lib.hid ht0
    have Lt0 := Lib.hid Ft0.out.lt
    clear ht0
    generalize hrc1 : frC a0 xs1 = rc1
    have HRC1 := Lib.hid hrc1
    clear hrc1
    have h6 := (Below.refl w5.heap.size w5).alloc (Nat.le_refl _) (.cells #[.int .i16 (frN a0 xs1), (.slice At0 nt0 kt0)] 30)
    have X6 := Lib.hid (heap_alloc_new w5 (.cells #[.int .i16 (frN a0 xs1), (.slice At0 nt0 kt0)] 30))
    have Y6 := Lib.hid (show w5.heap.size < (World.alloc w5 (.cells #[.int .i16 (frN a0 xs1), (.slice At0 nt0 kt0)] 30)).heap.size by simp)
    have q_u_0 := (h6.cell (p := ⟨_, 0, none⟩) ub0_5_l.out).trans (cell_of_row w5 _ 0 _ _ _ ub0_5.out)
    have q_u_1 := (h6.cell (p := ⟨_, 1, none⟩) ub0_5_l.out).trans (cell_of_row w5 _ 1 _ _ _ ub0_5.out)
    have qp_u_0 := cell_of_row w5 _ 0 _ _ _ ub0_5.out
    have qp_u_1 := cell_of_row w5 _ 1 _ _ _ ub0_5.out
    have ql_u := ub0_5_l.out
    simp only [List.getElem?_toArray, List.getElem?_cons_zero, List.getElem?_cons_succ] at q_u_0 q_u_1 qp_u_0 qp_u_1
    go_wp2_with fail
    generalize World.alloc w5 _ = w6 at X6 h6 Y6 ⊢
    have z6 := h6.size
    have yy6 := Y6.out
    have B6 := Lib.hid (bnext B5.out h6)
    have zb6 := B6.out.size
    have u0_6 := Lib.hid (u0_5.out.below h6)
    have ub0_6 := Lib.hid ((h6.block _ ub0_5_l.out).trans ub0_5.out)
    have ub0_6_l := Lib.hid (Nat.lt_of_lt_of_le ub0_5_l.out z6)
    have x1_6 := Lib.hid (x1_5.out.below h6 x1_5.out.lt)
    have t0_6 := Lib.hid (Ft0.out.below h6)
    refine (eqRack_same ⟨frN a0 xs1, frL a0 xs1⟩ _ _ _ t0_6.out.slice u0_6.out.slice LM0.out).mono ?_
    rintro e w7 ⟨rfl, h7⟩
    have z7 := h7.size
    clear q_u_0 q_u_1 qp_u_0 qp_u_1 ql_u
    have B7 := Lib.hid (bnext B6.out h7)
    have zb7 := B7.out.size
    have u0_7 := Lib.hid (u0_6.out.below h7)
    have ub0_7 := Lib.hid ((h7.block _ ub0_6_l.out).trans ub0_6.out)
    have ub0_7_l := Lib.hid (Nat.lt_of_lt_of_le ub0_6_l.out z7)
    have x1_7 := Lib.hid (x1_6.out.below h7 x1_6.out.lt)
    have t0_7 := Lib.hid (t0_6.out.below h7)
    have tb0_7 := Lib.hid ((h7.block _ Y6.out).trans X6.out)
    have tb0_7_l := Lib.hid (Nat.lt_of_lt_of_le Y6.out z7)
    go_wp2_with fail
    refine (toBookS_any _ xs1 _ (SL1.out.below B7.out) hn1).mono ?_
    rintro e w8 ⟨g2, rfl, lo2, hr2, h8⟩
    have z8 := h8.size
    have B8 := Lib.hid (bnext B7.out h8)
    have zb8 := B8.out.size
    have u0_8 := Lib.hid (u0_7.out.below h8)
    have ub0_8 := Lib.hid ((h8.block _ ub0_7_l.out).trans ub0_7.out)
    have ub0_8_l := Lib.hid (Nat.lt_of_lt_of_le ub0_7_l.out z8)
    have x1_8 := Lib.hid (x1_7.out.below h8 x1_7.out.lt)
    have t0_8 := Lib.hid (t0_7.out.below h8)
    have tb0_8 := Lib.hid ((h8.block _ tb0_7_l.out).trans tb0_7.out)
    have tb0_8_l := Lib.hid (Nat.lt_of_lt_of_le tb0_7_l.out z8)
    have P2 := Lib.hid hr2
    have hi2 := hr2.lt
    clear hr2
    go_wp2_with fail
    refine (eqBookS_same _ _ xs1 _ (Row.slice x1_8.out) (Row.slice P2.out) ML1.out).mono ?_
    rintro e w9 ⟨rfl, h9⟩
    have z9 := h9.size
    have B9 := Lib.hid (bnext B8.out h9)
    have zb9 := B9.out.size
    have u0_9 := Lib.hid (u0_8.out.below h9)
    have ub0_9 := Lib.hid ((h9.block _ ub0_8_l.out).trans ub0_8.out)
    have ub0_9_l := Lib.hid (Nat.lt_of_lt_of_le ub0_8_l.out z9)
    have x1_9 := Lib.hid (x1_8.out.below h9 x1_8.out.lt)
    have t0_9 := Lib.hid (t0_8.out.below h9)
    have tb0_9 := Lib.hid ((h9.block _ tb0_8_l.out).trans tb0_8.out)
    have tb0_9_l := Lib.hid (Nat.lt_of_lt_of_le tb0_8_l.out z9)
    have d1_9 := Lib.hid (P2.out.below h9 P2.out.lt)
    go_wp2_with fail
    refine (markBookS_val g1 xs1.length xs1.length xs1.length 1 _ (RowG.of x1_9.out) (Nat.le_refl _) hn1 (by omega) (by omega)).mono ?_
    rintro e w10 ⟨rfl, -, h10⟩
    have z10 := h10.size
    have B10 := Lib.hid (B9.out.grown h10 B9.out.size (fun k hk => by injection hk with hk; omega))
    have zb10 := B10.out.size
    have u0_10 := Lib.hid (u0_9.out.other h10 (fun k hk e => by have := Lu0.out k hk; first | (injection e with e; omega) | omega))
    have ub0_10 := Lib.hid ((h10.block _ ub0_9_l.out (fun e => by injection e with e; omega)).trans ub0_9.out)
    have ub0_10_l := Lib.hid (Nat.lt_of_lt_of_le ub0_9_l.out z10)
    have t0_10 := Lib.hid (t0_9.out.other h10 (fun k hk e => by have := Lt0.out k hk; first | (injection e with e; omega) | omega))
    have tb0_10 := Lib.hid ((h10.block _ tb0_9_l.out (fun e => by injection e with e; omega)).trans tb0_9.out)
    have tb0_10_l := Lib.hid (Nat.lt_of_lt_of_le tb0_9_l.out z10)
    generalize hkk10 : 1 + 8 * (xs1.length : Int) = kk10
    have kl10 : 0 ≤ kk10 := by omega
    have ku10 : kk10 ≤ 8388609 := by omega
    clear hkk10
    have kd : decide (kk10 < 0) = false := by simp; omega
    have kd2 : ¬ (kk10 < 0) := by omega
    have q_tb0_0 := cell_of_row w10 _ 0 _ _ _ tb0_10.out
    have q_tb0_1 := cell_of_row w10 _ 1 _ _ _ tb0_10.out
    simp only [List.getElem?_toArray, List.getElem?_cons_zero, List.getElem?_cons_succ] at q_tb0_0 q_tb0_1
    have q_ub0_0 := cell_of_row w10 _ 0 _ _ _ ub0_10.out
    have q_ub0_1 := cell_of_row w10 _ 1 _ _ _ ub0_10.out
    simp only [List.getElem?_toArray, List.getElem?_cons_zero, List.getElem?_cons_succ] at q_ub0_0 q_ub0_1
    go_wp2_with fail
    refine (eqRack_same ⟨frN a0 xs1, frL a0 xs1⟩ _ _ _ t0_10.out.slice u0_10.out.slice LM0.out).mono ?_
    rintro e w11 ⟨rfl, h11⟩
    have z11 := h11.size
    clear q_tb0_0 q_tb0_1 q_ub0_0 q_ub0_1
    have B11 := Lib.hid (bnext B10.out h11)
    have zb11 := B11.out.size
    have u0_11 := Lib.hid (u0_10.out.below h11)
    have ub0_11 := Lib.hid ((h11.block _ ub0_10_l.out).trans ub0_10.out)
    have ub0_11_l := Lib.hid (Nat.lt_of_lt_of_le ub0_10_l.out z11)
    have t0_11 := Lib.hid (t0_10.out.below h11)
    have tb0_11 := Lib.hid ((h11.block _ tb0_10_l.out).trans tb0_10.out)
    have tb0_11_l := Lib.hid (Nat.lt_of_lt_of_le tb0_10_l.out z11)
    have q_tb0_0 := cell_of_row w11 _ 0 _ _ _ tb0_11.out
    have q_tb0_1 := cell_of_row w11 _ 1 _ _ _ tb0_11.out
    simp only [List.getElem?_toArray, List.getElem?_cons_zero, List.getElem?_cons_succ] at q_tb0_0 q_tb0_1
    go_wp2_with fail
    refine (markRack_any (frN a0 xs1) (.slice At0 nt0 kt0) (frL a0 xs1) _ 1 _ t0_11.out LR0.out (by omega) (by omega)).mono ?_
    rintro e w12 ⟨rfl, hm0, h12⟩
    have z12 := h12.size
    have M0 := Lib.hid hm0
    clear hm0
    clear q_tb0_0 q_tb0_1
    have B12 := Lib.hid (B11.out.grown h12 B11.out.size (fun k hk => by have := Lt0.out k hk; omega))
    have zb12 := B12.out.size
    have u0_12 := Lib.hid (u0_11.out.other h12 (fun k hk e => by have := Lu0.out k hk; have := Lt0.out k e.symm; omega))
    have ub0_12 := Lib.hid ((h12.block _ ub0_11_l.out (fun e => by have := Lt0.out _ e.symm; omega)).trans ub0_11.out)
    have ub0_12_l := Lib.hid (Nat.lt_of_lt_of_le ub0_11_l.out z12)
    have tb0_12 := Lib.hid ((h12.block _ tb0_11_l.out (fun e => by have := Lt0.out _ e.symm; omega)).trans tb0_11.out)
    have tb0_12_l := Lib.hid (Nat.lt_of_lt_of_le tb0_11_l.out z12)
    have q_tb0_0 := cell_of_row w12 _ 0 _ _ _ tb0_12.out
    have q_tb0_1 := cell_of_row w12 _ 1 _ _ _ tb0_12.out
    simp only [List.getElem?_toArray, List.getElem?_cons_zero, List.getElem?_cons_succ] at q_tb0_0 q_tb0_1
    go_wp2_with fail
    refine (heldRack_any (frN a0 xs1) (.slice At0 nt0 kt0) (frL a0 xs1).length 1 _ LR0.out (by omega) (by omega) M0.out.slice).mono ?_
    rintro e w13 ⟨rfl, h13⟩
    have z13 := h13.size
    clear q_tb0_0 q_tb0_1
    have B13 := Lib.hid (bnext B12.out h13)
    have zb13 := B13.out.size
    have u0_13 := Lib.hid (u0_12.out.below h13)
    have ub0_13 := Lib.hid ((h13.block _ ub0_12_l.out).trans ub0_12.out)
    have ub0_13_l := Lib.hid (Nat.lt_of_lt_of_le ub0_12_l.out z13)
    have tb0_13 := Lib.hid ((h13.block _ tb0_12_l.out).trans tb0_12.out)
    have tb0_13_l := Lib.hid (Nat.lt_of_lt_of_le tb0_12_l.out z13)
    have m0_13 := Lib.hid (M0.out.below h13)
    go_wp2_with fail
    refine (toBookS_any _ xs1 _ (SL1.out.below B13.out) hn1).mono ?_
    rintro e w14 ⟨g3, rfl, lo3, hr3, h14⟩
    have z14 := h14.size
    have B14 := Lib.hid (bnext B13.out h14)
    have zb14 := B14.out.size
    have u0_14 := Lib.hid (u0_13.out.below h14)
    have ub0_14 := Lib.hid ((h14.block _ ub0_13_l.out).trans ub0_13.out)
    have ub0_14_l := Lib.hid (Nat.lt_of_lt_of_le ub0_13_l.out z14)
    have tb0_14 := Lib.hid ((h14.block _ tb0_13_l.out).trans tb0_13.out)
    have tb0_14_l := Lib.hid (Nat.lt_of_lt_of_le tb0_13_l.out z14)
    have m0_14 := Lib.hid (m0_13.out.below h14)
    have P3 := Lib.hid hr3
    have hi3 := hr3.lt
    clear hr3
    go_wp2_with fail
    refine (fillRack_any a0 _ xs1 WF1.out _ s i y (HE.out.below B14.out) (Row.slice P3.out) hn1).mono ?_
    rintro e w15 ⟨v0, rfl, hv0, h15⟩
    have z15 := h15.size
    have B15 := Lib.hid (bnext B14.out h15)
    have zb15 := B15.out.size
    have u0_15 := Lib.hid (u0_14.out.below h15)
    have ub0_15 := Lib.hid ((h15.block _ ub0_14_l.out).trans ub0_14.out)
    have ub0_15_l := Lib.hid (Nat.lt_of_lt_of_le ub0_14_l.out z15)
    have tb0_15 := Lib.hid ((h15.block _ tb0_14_l.out).trans tb0_14.out)
    have tb0_15_l := Lib.hid (Nat.lt_of_lt_of_le tb0_14_l.out z15)
    have m0_15 := Lib.hid (m0_14.out.below h15)
    have p1_15 := Lib.hid (P3.out.below h15 P3.out.lt)
    obtain ⟨Av0, nv0, kv0, rfl⟩ := hv0.form
    have Fv0 := Lib.hid hv0
    have Lv0 := Lib.hid Fv0.out.lt
    clear hv0
    rw [HRC1.out]
    have h16 := (Below.refl w15.heap.size w15).alloc (Nat.le_refl _) (.cells #[.int .i16 (frN a0 xs1), (.slice Av0 nv0 kv0)] 30)
    have X16 := Lib.hid (heap_alloc_new w15 (.cells #[.int .i16 (frN a0 xs1), (.slice Av0 nv0 kv0)] 30))
    have Y16 := Lib.hid (show w15.heap.size < (World.alloc w15 (.cells #[.int .i16 (frN a0 xs1), (.slice Av0 nv0 kv0)] 30)).heap.size by simp)
    have q_u_0 := (h16.cell (p := ⟨_, 0, none⟩) ub0_15_l.out).trans (cell_of_row w15 _ 0 _ _ _ ub0_15.out)
    have q_u_1 := (h16.cell (p := ⟨_, 1, none⟩) ub0_15_l.out).trans (cell_of_row w15 _ 1 _ _ _ ub0_15.out)
    have qp_u_0 := cell_of_row w15 _ 0 _ _ _ ub0_15.out
    have qp_u_1 := cell_of_row w15 _ 1 _ _ _ ub0_15.out
    have ql_u := ub0_15_l.out
    simp only [List.getElem?_toArray, List.getElem?_cons_zero, List.getElem?_cons_succ] at q_u_0 q_u_1 qp_u_0 qp_u_1
    go_wp2_with fail
    generalize World.alloc w15 _ = w16 at X16 h16 Y16 ⊢
    have z16 := h16.size
    have yy16 := Y16.out
    have B16 := Lib.hid (bnext B15.out h16)
    have zb16 := B16.out.size
    have u0_16 := Lib.hid (u0_15.out.below h16)
    have ub0_16 := Lib.hid ((h16.block _ ub0_15_l.out).trans ub0_15.out)
    have ub0_16_l := Lib.hid (Nat.lt_of_lt_of_le ub0_15_l.out z16)
    have tb0_16 := Lib.hid ((h16.block _ tb0_15_l.out).trans tb0_15.out)
    have tb0_16_l := Lib.hid (Nat.lt_of_lt_of_le tb0_15_l.out z16)
    have m0_16 := Lib.hid (m0_15.out.below h16)
    have v0_16 := Lib.hid (Fv0.out.below h16)
    refine (eqRack_same ⟨frN a0 xs1, frL a0 xs1⟩ _ _ _ v0_16.out.slice u0_16.out.slice LM0.out).mono ?_
    rintro e w17 ⟨rfl, h17⟩
    have z17 := h17.size
    clear q_u_0 q_u_1 qp_u_0 qp_u_1 ql_u
    have B17 := Lib.hid (bnext B16.out h17)
    have zb17 := B17.out.size
    have u0_17 := Lib.hid (u0_16.out.below h17)
    have ub0_17 := Lib.hid ((h17.block _ ub0_16_l.out).trans ub0_16.out)
    have ub0_17_l := Lib.hid (Nat.lt_of_lt_of_le ub0_16_l.out z17)
    have tb0_17 := Lib.hid ((h17.block _ tb0_16_l.out).trans tb0_16.out)
    have tb0_17_l := Lib.hid (Nat.lt_of_lt_of_le tb0_16_l.out z17)
    have m0_17 := Lib.hid (m0_16.out.below h17)
    have v0_17 := Lib.hid (v0_16.out.below h17)
    have vb0_17 := Lib.hid ((h17.block _ Y16.out).trans X16.out)
    have vb0_17_l := Lib.hid (Nat.lt_of_lt_of_le Y16.out z17)
    have q_tb0_0 := cell_of_row w17 _ 0 _ _ _ tb0_17.out
    have q_tb0_1 := cell_of_row w17 _ 1 _ _ _ tb0_17.out
    simp only [List.getElem?_toArray, List.getElem?_cons_zero, List.getElem?_cons_succ] at q_tb0_0 q_tb0_1
    go_wp2_with fail
    refine (heldRack_any (frN a0 xs1) (.slice At0 nt0 kt0) (frL a0 xs1).length 1 _ LR0.out (by omega) (by omega) m0_17.out.slice).mono ?_
    rintro e w18 ⟨rfl, h18⟩
    have z18 := h18.size
    clear q_tb0_0 q_tb0_1
    have B18 := Lib.hid (bnext B17.out h18)
    have zb18 := B18.out.size
    have u0_18 := Lib.hid (u0_17.out.below h18)
    have ub0_18 := Lib.hid ((h18.block _ ub0_17_l.out).trans ub0_17.out)
    have ub0_18_l := Lib.hid (Nat.lt_of_lt_of_le ub0_17_l.out z18)
    have tb0_18 := Lib.hid ((h18.block _ tb0_17_l.out).trans tb0_17.out)
    have tb0_18_l := Lib.hid (Nat.lt_of_lt_of_le tb0_17_l.out z18)
    have m0_18 := Lib.hid (m0_17.out.below h18)
    have v0_18 := Lib.hid (v0_17.out.below h18)
    have vb0_18 := Lib.hid ((h18.block _ vb0_17_l.out).trans vb0_17.out)
    have vb0_18_l := Lib.hid (Nat.lt_of_lt_of_le vb0_17_l.out z18)
    go_wp2
    go_ret
    exact ⟨rfl, B18.out⟩
  · have e1 : (1048576 - (xs1.length : Int) < 0) := by omega
    go_enter Tryd.func11, Tryd.ntmps11
    go_wp2_with fail
    refine (szBookS_left _ _ _ _ _ mx1 (by omega) (by omega)).mono ?_
    rintro e w' ⟨rfl, rfl⟩
    rw [if_neg (by omega)]
    go_wp2
    go_ret
    exact ⟨rfl, Below.refl _ _⟩

end Go.Proofs.YtlphpajpjpohmaaDoor
