/- The law of CaseFrom, walked. No condition. -/
import Derived.Test.YtblgoflkcomncaaCf3
import Derived.Deep.RegionHeld3
import Derived.Test.YtblgoflkcomncaaOwnsI
namespace Go.Proofs.Ytblgoflkcomncaa
set_option linter.unusedSimpArgs false
set_option linter.unusedVariables false
set_option maxRecDepth 100000
open Go.RowKit

theorem rowOtherCaseFrom {w w' : World} {g g' : Nat} {xs : List Bk} (h : Row w g xs) (hg : w.grownBy w' (some g')) (hne : g ≠ g') : Row w' g xs := by
  obtain ⟨cs, h1, h2⟩ := h
  exact ⟨cs, (hg.block g (Array.getElem?_eq_some_iff.1 h1).1 (fun e => hne (by injection e))).trans h1, h2⟩
theorem irowOtherCaseFrom {w w' : World} {g g' : Nat} {t : TypeId} {zs : List Int} (h : IRow .i64 t w g zs) (hg : w.grownBy w' (some g')) (hne : g ≠ g') : IRow .i64 t w' g zs := by
  obtain ⟨cs, h1, h2⟩ := h
  exact ⟨cs, (hg.block g (Array.getElem?_eq_some_iff.1 h1).1 (fun e => hne (by injection e))).trans h1, h2⟩

set_option maxHeartbeats 16000000 in
theorem walkCaseFrom (p0 : Pg) (wf0 : p0.Wf) (v1 : Value) (zs1 : List Int) (wf1 : ∀ z ∈ zs1, (Lit.int .i64 z).wf = true) (v2 : Value) (zs2 : List Int) (wf2 : ∀ z ∈ zs2, (Lit.int .i64 z).wf = true) (a3 : Int) (wf3 : (Lit.int .i64 a3).wf = true) (a4 : Int) (wf4 : (Lit.int .i64 a4).wf = true) (w : World) (sl1 : IntsOf .i64 w v1 zs1) (ml1 : zs1.length ≤ maxLen) (sl2 : IntsOf .i64 w v2 zs2) (ml2 : zs2.length ≤ maxLen) :
    Calls Try.prog 3 #[.agg #[.int .i16 p0.lo, .int .i16 p0.st, .int .i16 p0.bo], v1, v2, .int .i64 a3, .int .i64 a4] w fun e w' => e = .returned (.bool true) ∧ Below w.heap.size w w' := by
  have mx1 : zs1.length ≤ 9223372036854775807 := by unfold maxLen at ml1; omega
  have SL1 := Lib.hid sl1
  have WF1 := Lib.hid wf1
  have ML1 := Lib.hid ml1
  obtain ⟨A1, k1, rfl, -⟩ := sl1
  have mx2 : zs2.length ≤ 9223372036854775807 := by unfold maxLen at ml2; omega
  have SL2 := Lib.hid sl2
  have WF2 := Lib.hid wf2
  have ML2 := Lib.hid ml2
  obtain ⟨A2, k2, rfl, -⟩ := sl2
  have WI3 := Lib.hid wf3
  have WI4 := Lib.hid wf4
  have WF0 := Lib.hid wf0
  clear wf0
  clear wf1 ml1 wf2 ml2 wf3 wf4
  by_cases hn1 : (zs1.length : Int) ≤ 1048576
  · have e1 : ¬ ((1048576 : Int) < (zs1.length : Int)) := by omega
    by_cases hn2 : (zs2.length : Int) ≤ 1048576
    · have e2 : ¬ ((1048576 : Int) < (zs2.length : Int)) := by omega
      go_enter Try.func3, Try.ntmps3
      have h1 := (Below.refl w.heap.size w).alloc (Nat.le_refl _) (.cells #[.int .i16 p0.lo, .int .i16 p0.st, .int .i16 p0.bo] 24)
      have X1 := Lib.hid (heap_alloc_new w (.cells #[.int .i16 p0.lo, .int .i16 p0.st, .int .i16 p0.bo] 24))
      have Y1 := Lib.hid (show w.heap.size < (World.alloc w (.cells #[.int .i16 p0.lo, .int .i16 p0.st, .int .i16 p0.bo] 24)).heap.size by simp)
      replace hn1 : zs1.length ≤ 1048576 := by omega
      replace hn2 : zs2.length ≤ 1048576 := by omega
      have le := cfV_len p0 zs1 zs2 a3 a4
      obtain ⟨cv, hV⟩ : ∃ cv, cfV p0 zs1 zs2 a3 a4 = cv := ⟨_, rfl⟩
      obtain ⟨kc, hK⟩ : ∃ kc, cfC p0 zs1 zs2 a3 a4 = kc := ⟨_, rfl⟩
      rw [hV] at le
      have SP := Lib.hid (fun W v1 v2 (h1 : IntsOf .i64 W v1 zs1) (h2 : IntsOf .i64 W v2 zs2) => specCF WF0.out WF1.out WF2.out ML1.out ML2.out hV hK W h1 h2)
      have IM := Lib.hid (fun W v1 v2 (h1 : IntsOf .i64 W v1 zs1) (h2 : IntsOf .i64 W v2 zs2) => implCF WF0.out WF1.out ML1.out ML2.out hV hK W h1 h2)
      have LE0 := Lib.hid (show cv.hs.length ≤ 300 by omega)
      obtain ⟨x0, x1, ds⟩ := cv
      dsimp only at SP IM LE0
      clear hV hK le
      have LR0 := Lib.hid (show (ds).length ≤ 1048576 from Nat.le_trans LE0.out (by decide))
      have LM0 := Lib.hid (show (ds).length ≤ maxLen from Nat.le_trans LR0.out (by unfold maxLen; omega))
      go_wp2_with fail
      generalize World.alloc w _ = w1 at X1 h1 Y1 ⊢
      have z1 := h1.size
      have yy1 := Y1.out
      have B1 := Lib.hid h1
      have zb1 := B1.out.size
      have q_a0_0 := cell_of_row w1 _ 0 _ _ _ X1.out
      have q_a0_1 := cell_of_row w1 _ 1 _ _ _ X1.out
      have q_a0_2 := cell_of_row w1 _ 2 _ _ _ X1.out
      simp only [List.getElem?_toArray, List.getElem?_cons_zero, List.getElem?_cons_succ] at q_a0_0 q_a0_1 q_a0_2
      go_wp2_with fail
      refine (toPegs_any p0 _).mono ?_
      rintro e w2 ⟨rfl, h2⟩
      have z2 := h2.size
      clear q_a0_0 q_a0_1 q_a0_2
      have B2 := Lib.hid (bnext B1.out h2)
      have zb2 := B2.out.size
      have a0_2 := Lib.hid ((h2.block _ Y1.out).trans X1.out)
      have a0_2_l := Lib.hid (Nat.lt_of_lt_of_le Y1.out z2)
      go_wp2_with fail
      refine (toInt64S_any _ zs1 _ (SL1.out.below B2.out) hn1).mono ?_
      rintro e w3 ⟨g0, rfl, lo0, hr0, h3⟩
      have z3 := h3.size
      have B3 := Lib.hid (bnext B2.out h3)
      have zb3 := B3.out.size
      have a0_3 := Lib.hid ((h3.block _ a0_2_l.out).trans a0_2.out)
      have a0_3_l := Lib.hid (Nat.lt_of_lt_of_le a0_2_l.out z3)
      have P0 := Lib.hid hr0
      have hi0 := hr0.lt
      clear hr0
      go_wp2_with fail
      refine (toInt64S_any _ zs2 _ (SL2.out.below B3.out) hn2).mono ?_
      rintro e w4 ⟨g1, rfl, lo1, hr1, h4⟩
      have z4 := h4.size
      have B4 := Lib.hid (bnext B3.out h4)
      have zb4 := B4.out.size
      have a0_4 := Lib.hid ((h4.block _ a0_3_l.out).trans a0_3.out)
      have a0_4_l := Lib.hid (Nat.lt_of_lt_of_le a0_3_l.out z4)
      have s1_4 := Lib.hid (P0.out.below h4 P0.out.lt)
      have P1 := Lib.hid hr1
      have hi1 := hr1.lt
      clear hr1
      go_wp2_with fail
      refine (SP.out _ _ _ (IRow.slice s1_4.out) (IRow.slice P1.out)).mono ?_
      rintro e w5 ⟨u0, rfl, hu0, h5⟩
      have z5 := h5.size
      have B5 := Lib.hid (bnext B4.out h5)
      have zb5 := B5.out.size
      have a0_5 := Lib.hid ((h5.block _ a0_4_l.out).trans a0_4.out)
      have a0_5_l := Lib.hid (Nat.lt_of_lt_of_le a0_4_l.out z5)
      have s1_5 := Lib.hid (s1_4.out.below h5 s1_4.out.lt)
      have s2_5 := Lib.hid (P1.out.below h5 P1.out.lt)
      obtain ⟨Au0, ku0, rfl⟩ := own_slK hu0
      have Fu0 := Lib.hid hu0
      have Lu0 := Lib.hid Fu0.out.lt
      clear hu0
      have h6 := (Below.refl w5.heap.size w5).alloc (Nat.le_refl _) (.cells #[.int .i16 (x0), .int .i32 (x1), (.slice Au0 (ds).length ku0)] 28)
      have X6 := Lib.hid (heap_alloc_new w5 (.cells #[.int .i16 (x0), .int .i32 (x1), (.slice Au0 (ds).length ku0)] 28))
      have Y6 := Lib.hid (show w5.heap.size < (World.alloc w5 (.cells #[.int .i16 (x0), .int .i32 (x1), (.slice Au0 (ds).length ku0)] 28)).heap.size by simp)
      go_wp2_with fail
      generalize World.alloc w5 _ = w6 at X6 h6 Y6 ⊢
      have z6 := h6.size
      have yy6 := Y6.out
      have B6 := Lib.hid (bnext B5.out h6)
      have zb6 := B6.out.size
      have a0_6 := Lib.hid ((h6.block _ a0_5_l.out).trans a0_5.out)
      have a0_6_l := Lib.hid (Nat.lt_of_lt_of_le a0_5_l.out z6)
      have u0_6 := Lib.hid (ownBelow Fu0.out h6)
      refine (toInt64S_any _ zs1 _ (SL1.out.below B6.out) hn1).mono ?_
      rintro e w7 ⟨g2, rfl, lo2, hr2, h7⟩
      have z7 := h7.size
      have B7 := Lib.hid (bnext B6.out h7)
      have zb7 := B7.out.size
      have a0_7 := Lib.hid ((h7.block _ a0_6_l.out).trans a0_6.out)
      have a0_7_l := Lib.hid (Nat.lt_of_lt_of_le a0_6_l.out z7)
      have u0_7 := Lib.hid (ownBelow u0_6.out h7)
      have ub0_7 := Lib.hid ((h7.block _ Y6.out).trans X6.out)
      have ub0_7_l := Lib.hid (Nat.lt_of_lt_of_le Y6.out z7)
      have P2 := Lib.hid hr2
      have hi2 := hr2.lt
      clear hr2
      go_wp2_with fail
      refine (toInt64S_any _ zs2 _ (SL2.out.below B7.out) hn2).mono ?_
      rintro e w8 ⟨g3, rfl, lo3, hr3, h8⟩
      have z8 := h8.size
      have B8 := Lib.hid (bnext B7.out h8)
      have zb8 := B8.out.size
      have a0_8 := Lib.hid ((h8.block _ a0_7_l.out).trans a0_7.out)
      have a0_8_l := Lib.hid (Nat.lt_of_lt_of_le a0_7_l.out z8)
      have u0_8 := Lib.hid (ownBelow u0_7.out h8)
      have ub0_8 := Lib.hid ((h8.block _ ub0_7_l.out).trans ub0_7.out)
      have ub0_8_l := Lib.hid (Nat.lt_of_lt_of_le ub0_7_l.out z8)
      have x1_8 := Lib.hid (P2.out.below h8 P2.out.lt)
      have P3 := Lib.hid hr3
      have hi3 := hr3.lt
      clear hr3
      have q_a0_0 := cell_of_row w8 _ 0 _ _ _ a0_8.out
      have q_a0_1 := cell_of_row w8 _ 1 _ _ _ a0_8.out
      have q_a0_2 := cell_of_row w8 _ 2 _ _ _ a0_8.out
      simp only [List.getElem?_toArray, List.getElem?_cons_zero, List.getElem?_cons_succ] at q_a0_0 q_a0_1 q_a0_2
      go_wp2_with fail
      refine (toPegs_any p0 _).mono ?_
      rintro e w9 ⟨rfl, h9⟩
      have z9 := h9.size
      clear q_a0_0 q_a0_1 q_a0_2
      have B9 := Lib.hid (bnext B8.out h9)
      have zb9 := B9.out.size
      have a0_9 := Lib.hid ((h9.block _ a0_8_l.out).trans a0_8.out)
      have a0_9_l := Lib.hid (Nat.lt_of_lt_of_le a0_8_l.out z9)
      have u0_9 := Lib.hid (ownBelow u0_8.out h9)
      have ub0_9 := Lib.hid ((h9.block _ ub0_8_l.out).trans ub0_8.out)
      have ub0_9_l := Lib.hid (Nat.lt_of_lt_of_le ub0_8_l.out z9)
      have x1_9 := Lib.hid (x1_8.out.below h9 x1_8.out.lt)
      have x2_9 := Lib.hid (P3.out.below h9 P3.out.lt)
      go_wp2_with fail
      refine (IM.out _ _ _ (IRow.slice x1_9.out) (IRow.slice x2_9.out)).mono ?_
      rintro e w10 ⟨t0, rfl, ht0, h10⟩
      have z10 := h10.size
      have B10 := Lib.hid (bnext B9.out h10)
      have zb10 := B10.out.size
      have a0_10 := Lib.hid ((h10.block _ a0_9_l.out).trans a0_9.out)
      have a0_10_l := Lib.hid (Nat.lt_of_lt_of_le a0_9_l.out z10)
      have u0_10 := Lib.hid (ownBelow u0_9.out h10)
      have ub0_10 := Lib.hid ((h10.block _ ub0_9_l.out).trans ub0_9.out)
      have ub0_10_l := Lib.hid (Nat.lt_of_lt_of_le ub0_9_l.out z10)
      have x1_10 := Lib.hid (x1_9.out.below h10 x1_9.out.lt)
      have x2_10 := Lib.hid (x2_9.out.below h10 x2_9.out.lt)
      obtain ⟨At0, kt0, rfl⟩ := own_slK ht0
      have Ft0 := Lib.hid ht0
      have Lt0 := Lib.hid Ft0.out.lt
      clear ht0
      generalize hrc1 : kc = rc1
      have HRC1 := Lib.hid hrc1
      clear hrc1
      have h11 := (Below.refl w10.heap.size w10).alloc (Nat.le_refl _) (.cells #[.int .i16 (x0), .int .i32 (x1), (.slice At0 (ds).length kt0)] 28)
      have X11 := Lib.hid (heap_alloc_new w10 (.cells #[.int .i16 (x0), .int .i32 (x1), (.slice At0 (ds).length kt0)] 28))
      have Y11 := Lib.hid (show w10.heap.size < (World.alloc w10 (.cells #[.int .i16 (x0), .int .i32 (x1), (.slice At0 (ds).length kt0)] 28)).heap.size by simp)
      have q_u_0 := (h11.cell (p := ⟨_, 0, none⟩) ub0_10_l.out).trans (cell_of_row w10 _ 0 _ _ _ ub0_10.out)
      have q_u_1 := (h11.cell (p := ⟨_, 1, none⟩) ub0_10_l.out).trans (cell_of_row w10 _ 1 _ _ _ ub0_10.out)
      have q_u_2 := (h11.cell (p := ⟨_, 2, none⟩) ub0_10_l.out).trans (cell_of_row w10 _ 2 _ _ _ ub0_10.out)
      have qp_u_0 := cell_of_row w10 _ 0 _ _ _ ub0_10.out
      have qp_u_1 := cell_of_row w10 _ 1 _ _ _ ub0_10.out
      have qp_u_2 := cell_of_row w10 _ 2 _ _ _ ub0_10.out
      have ql_u := ub0_10_l.out
      simp only [List.getElem?_toArray, List.getElem?_cons_zero, List.getElem?_cons_succ] at q_u_0 q_u_1 q_u_2 qp_u_0 qp_u_1 qp_u_2
      go_wp2_with fail
      generalize World.alloc w10 _ = w11 at X11 h11 Y11 ⊢
      have z11 := h11.size
      have yy11 := Y11.out
      have B11 := Lib.hid (bnext B10.out h11)
      have zb11 := B11.out.size
      have a0_11 := Lib.hid ((h11.block _ a0_10_l.out).trans a0_10.out)
      have a0_11_l := Lib.hid (Nat.lt_of_lt_of_le a0_10_l.out z11)
      have u0_11 := Lib.hid (ownBelow u0_10.out h11)
      have ub0_11 := Lib.hid ((h11.block _ ub0_10_l.out).trans ub0_10.out)
      have ub0_11_l := Lib.hid (Nat.lt_of_lt_of_le ub0_10_l.out z11)
      have x1_11 := Lib.hid (x1_10.out.below h11 x1_10.out.lt)
      have x2_11 := Lib.hid (x2_10.out.below h11 x2_10.out.lt)
      have t0_11 := Lib.hid (ownBelow Ft0.out h11)
      refine (eqCase_sameR ⟨x0, x1, ds⟩ _ _ _ (ownInts t0_11.out) (ownInts u0_11.out) LM0.out).mono ?_
      rintro e w12 ⟨rfl, h12⟩
      have z12 := h12.size
      clear q_u_0 q_u_1 q_u_2 qp_u_0 qp_u_1 qp_u_2 ql_u
      have B12 := Lib.hid (bnext B11.out h12)
      have zb12 := B12.out.size
      have a0_12 := Lib.hid ((h12.block _ a0_11_l.out).trans a0_11.out)
      have a0_12_l := Lib.hid (Nat.lt_of_lt_of_le a0_11_l.out z12)
      have u0_12 := Lib.hid (ownBelow u0_11.out h12)
      have ub0_12 := Lib.hid ((h12.block _ ub0_11_l.out).trans ub0_11.out)
      have ub0_12_l := Lib.hid (Nat.lt_of_lt_of_le ub0_11_l.out z12)
      have x1_12 := Lib.hid (x1_11.out.below h12 x1_11.out.lt)
      have x2_12 := Lib.hid (x2_11.out.below h12 x2_11.out.lt)
      have t0_12 := Lib.hid (ownBelow t0_11.out h12)
      have tb0_12 := Lib.hid ((h12.block _ Y11.out).trans X11.out)
      have tb0_12_l := Lib.hid (Nat.lt_of_lt_of_le Y11.out z12)
      go_wp2_with fail
      refine (toInt64S_any _ zs1 _ (SL1.out.below B12.out) hn1).mono ?_
      rintro e w13 ⟨g4, rfl, lo4, hr4, h13⟩
      have z13 := h13.size
      have B13 := Lib.hid (bnext B12.out h13)
      have zb13 := B13.out.size
      have a0_13 := Lib.hid ((h13.block _ a0_12_l.out).trans a0_12.out)
      have a0_13_l := Lib.hid (Nat.lt_of_lt_of_le a0_12_l.out z13)
      have u0_13 := Lib.hid (ownBelow u0_12.out h13)
      have ub0_13 := Lib.hid ((h13.block _ ub0_12_l.out).trans ub0_12.out)
      have ub0_13_l := Lib.hid (Nat.lt_of_lt_of_le ub0_12_l.out z13)
      have x1_13 := Lib.hid (x1_12.out.below h13 x1_12.out.lt)
      have x2_13 := Lib.hid (x2_12.out.below h13 x2_12.out.lt)
      have t0_13 := Lib.hid (ownBelow t0_12.out h13)
      have tb0_13 := Lib.hid ((h13.block _ tb0_12_l.out).trans tb0_12.out)
      have tb0_13_l := Lib.hid (Nat.lt_of_lt_of_le tb0_12_l.out z13)
      have P4 := Lib.hid hr4
      have hi4 := hr4.lt
      clear hr4
      go_wp2_with fail
      refine (eqInt64S_same' _ _ zs1 _ (IRow.slice x1_13.out) (IRow.slice P4.out) ML1.out).mono ?_
      rintro e w14 ⟨rfl, h14⟩
      have z14 := h14.size
      have B14 := Lib.hid (bnext B13.out h14)
      have zb14 := B14.out.size
      have a0_14 := Lib.hid ((h14.block _ a0_13_l.out).trans a0_13.out)
      have a0_14_l := Lib.hid (Nat.lt_of_lt_of_le a0_13_l.out z14)
      have u0_14 := Lib.hid (ownBelow u0_13.out h14)
      have ub0_14 := Lib.hid ((h14.block _ ub0_13_l.out).trans ub0_13.out)
      have ub0_14_l := Lib.hid (Nat.lt_of_lt_of_le ub0_13_l.out z14)
      have x1_14 := Lib.hid (x1_13.out.below h14 x1_13.out.lt)
      have x2_14 := Lib.hid (x2_13.out.below h14 x2_13.out.lt)
      have t0_14 := Lib.hid (ownBelow t0_13.out h14)
      have tb0_14 := Lib.hid ((h14.block _ tb0_13_l.out).trans tb0_13.out)
      have tb0_14_l := Lib.hid (Nat.lt_of_lt_of_le tb0_13_l.out z14)
      have d1_14 := Lib.hid (P4.out.below h14 P4.out.lt)
      go_wp2_with fail
      refine (toInt64S_any _ zs2 _ (SL2.out.below B14.out) hn2).mono ?_
      rintro e w15 ⟨g5, rfl, lo5, hr5, h15⟩
      have z15 := h15.size
      have B15 := Lib.hid (bnext B14.out h15)
      have zb15 := B15.out.size
      have a0_15 := Lib.hid ((h15.block _ a0_14_l.out).trans a0_14.out)
      have a0_15_l := Lib.hid (Nat.lt_of_lt_of_le a0_14_l.out z15)
      have u0_15 := Lib.hid (ownBelow u0_14.out h15)
      have ub0_15 := Lib.hid ((h15.block _ ub0_14_l.out).trans ub0_14.out)
      have ub0_15_l := Lib.hid (Nat.lt_of_lt_of_le ub0_14_l.out z15)
      have x1_15 := Lib.hid (x1_14.out.below h15 x1_14.out.lt)
      have x2_15 := Lib.hid (x2_14.out.below h15 x2_14.out.lt)
      have t0_15 := Lib.hid (ownBelow t0_14.out h15)
      have tb0_15 := Lib.hid ((h15.block _ tb0_14_l.out).trans tb0_14.out)
      have tb0_15_l := Lib.hid (Nat.lt_of_lt_of_le tb0_14_l.out z15)
      have P5 := Lib.hid hr5
      have hi5 := hr5.lt
      clear hr5
      go_wp2_with fail
      refine (eqInt64S_same' _ _ zs2 _ (IRow.slice x2_15.out) (IRow.slice P5.out) ML2.out).mono ?_
      rintro e w16 ⟨rfl, h16⟩
      have z16 := h16.size
      have B16 := Lib.hid (bnext B15.out h16)
      have zb16 := B16.out.size
      have a0_16 := Lib.hid ((h16.block _ a0_15_l.out).trans a0_15.out)
      have a0_16_l := Lib.hid (Nat.lt_of_lt_of_le a0_15_l.out z16)
      have u0_16 := Lib.hid (ownBelow u0_15.out h16)
      have ub0_16 := Lib.hid ((h16.block _ ub0_15_l.out).trans ub0_15.out)
      have ub0_16_l := Lib.hid (Nat.lt_of_lt_of_le ub0_15_l.out z16)
      have x1_16 := Lib.hid (x1_15.out.below h16 x1_15.out.lt)
      have x2_16 := Lib.hid (x2_15.out.below h16 x2_15.out.lt)
      have t0_16 := Lib.hid (ownBelow t0_15.out h16)
      have tb0_16 := Lib.hid ((h16.block _ tb0_15_l.out).trans tb0_15.out)
      have tb0_16_l := Lib.hid (Nat.lt_of_lt_of_le tb0_15_l.out z16)
      have d2_16 := Lib.hid (P5.out.below h16 P5.out.lt)
      go_wp2_with fail
      refine (markI64_any _ zs1 1 0 _ hn1 (by omega) (by omega) (IRow.ownsI x1_16.out (Nat.zero_le _) ML1.out)).mono ?_
      rintro e w17 ⟨rfl, -, h17⟩
      have z17 := h17.size
      have h17 : World.grownBy w16 w17 (some g2) := h17
      have B17 := Lib.hid (B16.out.grown h17 B16.out.size (fun k hk => by injection hk with hk; omega))
      have zb17 := B17.out.size
      have a0_17 := Lib.hid ((h17.block _ a0_16_l.out (fun e => by injection e with e; omega)).trans a0_16.out)
      have a0_17_l := Lib.hid (Nat.lt_of_lt_of_le a0_16_l.out z17)
      have u0_17 := Lib.hid (ownOther u0_16.out h17 (fun k hk e => by have := Lu0.out k hk; first | (injection e with e; omega) | omega))
      have ub0_17 := Lib.hid ((h17.block _ ub0_16_l.out (fun e => by injection e with e; omega)).trans ub0_16.out)
      have ub0_17_l := Lib.hid (Nat.lt_of_lt_of_le ub0_16_l.out z17)
      have x2_17 := Lib.hid (irowOtherCaseFrom x2_16.out h17 (by have := lo3; have := hi3; omega))
      have t0_17 := Lib.hid (ownOther t0_16.out h17 (fun k hk e => by have := Lt0.out k hk; first | (injection e with e; omega) | omega))
      have tb0_17 := Lib.hid ((h17.block _ tb0_16_l.out (fun e => by injection e with e; omega)).trans tb0_16.out)
      have tb0_17_l := Lib.hid (Nat.lt_of_lt_of_le tb0_16_l.out z17)
      generalize hkk17 : 1 + (zs1.length : Int) = kk17
      have kl17 : 0 ≤ kk17 := by omega
      have ku17 : kk17 ≤ 1048577 := by omega
      clear hkk17
      go_wp2_with fail
      refine (markI64_any _ zs2 kk17 0 _ hn2 (by omega) (by omega) (IRow.ownsI x2_17.out (Nat.zero_le _) ML2.out)).mono ?_
      rintro e w18 ⟨rfl, -, h18⟩
      have z18 := h18.size
      have h18 : World.grownBy w17 w18 (some g3) := h18
      have B18 := Lib.hid (B17.out.grown h18 B17.out.size (fun k hk => by injection hk with hk; omega))
      have zb18 := B18.out.size
      have a0_18 := Lib.hid ((h18.block _ a0_17_l.out (fun e => by injection e with e; omega)).trans a0_17.out)
      have a0_18_l := Lib.hid (Nat.lt_of_lt_of_le a0_17_l.out z18)
      have u0_18 := Lib.hid (ownOther u0_17.out h18 (fun k hk e => by have := Lu0.out k hk; first | (injection e with e; omega) | omega))
      have ub0_18 := Lib.hid ((h18.block _ ub0_17_l.out (fun e => by injection e with e; omega)).trans ub0_17.out)
      have ub0_18_l := Lib.hid (Nat.lt_of_lt_of_le ub0_17_l.out z18)
      have t0_18 := Lib.hid (ownOther t0_17.out h18 (fun k hk e => by have := Lt0.out k hk; first | (injection e with e; omega) | omega))
      have tb0_18 := Lib.hid ((h18.block _ tb0_17_l.out (fun e => by injection e with e; omega)).trans tb0_17.out)
      have tb0_18_l := Lib.hid (Nat.lt_of_lt_of_le tb0_17_l.out z18)
      generalize hkk18 : kk17 + (zs2.length : Int) = kk18
      have kl18 : 0 ≤ kk18 := by omega
      have ku18 : kk18 ≤ 2097153 := by omega
      clear hkk18
      have kd : decide (kk18 < 0) = false := by simp; omega
      have kd2 : ¬ (kk18 < 0) := by omega
      have q_tb0_0 := cell_of_row w18 _ 0 _ _ _ tb0_18.out
      have q_tb0_1 := cell_of_row w18 _ 1 _ _ _ tb0_18.out
      have q_tb0_2 := cell_of_row w18 _ 2 _ _ _ tb0_18.out
      simp only [List.getElem?_toArray, List.getElem?_cons_zero, List.getElem?_cons_succ] at q_tb0_0 q_tb0_1 q_tb0_2
      have q_ub0_0 := cell_of_row w18 _ 0 _ _ _ ub0_18.out
      have q_ub0_1 := cell_of_row w18 _ 1 _ _ _ ub0_18.out
      have q_ub0_2 := cell_of_row w18 _ 2 _ _ _ ub0_18.out
      simp only [List.getElem?_toArray, List.getElem?_cons_zero, List.getElem?_cons_succ] at q_ub0_0 q_ub0_1 q_ub0_2
      go_wp2_with fail
      refine (eqCase_sameR ⟨x0, x1, ds⟩ _ _ _ (ownInts t0_18.out) (ownInts u0_18.out) LM0.out).mono ?_
      rintro e w19 ⟨rfl, h19⟩
      have z19 := h19.size
      clear q_tb0_0 q_tb0_1 q_tb0_2 q_ub0_0 q_ub0_1 q_ub0_2
      have B19 := Lib.hid (bnext B18.out h19)
      have zb19 := B19.out.size
      have a0_19 := Lib.hid ((h19.block _ a0_18_l.out).trans a0_18.out)
      have a0_19_l := Lib.hid (Nat.lt_of_lt_of_le a0_18_l.out z19)
      have u0_19 := Lib.hid (ownBelow u0_18.out h19)
      have ub0_19 := Lib.hid ((h19.block _ ub0_18_l.out).trans ub0_18.out)
      have ub0_19_l := Lib.hid (Nat.lt_of_lt_of_le ub0_18_l.out z19)
      have t0_19 := Lib.hid (ownBelow t0_18.out h19)
      have tb0_19 := Lib.hid ((h19.block _ tb0_18_l.out).trans tb0_18.out)
      have tb0_19_l := Lib.hid (Nat.lt_of_lt_of_le tb0_18_l.out z19)
      have q_tb0_0 := cell_of_row w19 _ 0 _ _ _ tb0_19.out
      have q_tb0_1 := cell_of_row w19 _ 1 _ _ _ tb0_19.out
      have q_tb0_2 := cell_of_row w19 _ 2 _ _ _ tb0_19.out
      simp only [List.getElem?_toArray, List.getElem?_cons_zero, List.getElem?_cons_succ] at q_tb0_0 q_tb0_1 q_tb0_2
      go_wp2_with fail
      refine (markCaseO (x0) (x1) At0 kt0 (ds) _ _ LE0.out t0_19.out).mono ?_
      rintro e w20 ⟨rfl, hm0, h20⟩
      have z20 := h20.size
      have M0 := Lib.hid hm0
      clear hm0
      clear q_tb0_0 q_tb0_1 q_tb0_2
      have B20 := Lib.hid (B19.out.grown h20 B19.out.size (fun k hk => by have := Lt0.out k hk; omega))
      have zb20 := B20.out.size
      have a0_20 := Lib.hid ((h20.block _ a0_19_l.out (fun e => by have := Lt0.out _ e.symm; omega)).trans a0_19.out)
      have a0_20_l := Lib.hid (Nat.lt_of_lt_of_le a0_19_l.out z20)
      have u0_20 := Lib.hid (ownOther u0_19.out h20 (fun k hk e => by have := Lu0.out k hk; have := Lt0.out k e.symm; omega))
      have ub0_20 := Lib.hid ((h20.block _ ub0_19_l.out (fun e => by have := Lt0.out _ e.symm; omega)).trans ub0_19.out)
      have ub0_20_l := Lib.hid (Nat.lt_of_lt_of_le ub0_19_l.out z20)
      have tb0_20 := Lib.hid ((h20.block _ tb0_19_l.out (fun e => by have := Lt0.out _ e.symm; omega)).trans tb0_19.out)
      have tb0_20_l := Lib.hid (Nat.lt_of_lt_of_le tb0_19_l.out z20)
      have q_tb0_0 := cell_of_row w20 _ 0 _ _ _ tb0_20.out
      have q_tb0_1 := cell_of_row w20 _ 1 _ _ _ tb0_20.out
      have q_tb0_2 := cell_of_row w20 _ 2 _ _ _ tb0_20.out
      simp only [List.getElem?_toArray, List.getElem?_cons_zero, List.getElem?_cons_succ] at q_tb0_0 q_tb0_1 q_tb0_2
      go_wp2_with fail
      refine (heldCaseO (x0) (x1) At0 kt0 (ds) _ _ LE0.out M0.out).mono ?_
      rintro e w21 ⟨rfl, h21⟩
      have z21 := h21.size
      clear q_tb0_0 q_tb0_1 q_tb0_2
      have B21 := Lib.hid (bnext B20.out h21)
      have zb21 := B21.out.size
      have a0_21 := Lib.hid ((h21.block _ a0_20_l.out).trans a0_20.out)
      have a0_21_l := Lib.hid (Nat.lt_of_lt_of_le a0_20_l.out z21)
      have u0_21 := Lib.hid (ownBelow u0_20.out h21)
      have ub0_21 := Lib.hid ((h21.block _ ub0_20_l.out).trans ub0_20.out)
      have ub0_21_l := Lib.hid (Nat.lt_of_lt_of_le ub0_20_l.out z21)
      have tb0_21 := Lib.hid ((h21.block _ tb0_20_l.out).trans tb0_20.out)
      have tb0_21_l := Lib.hid (Nat.lt_of_lt_of_le tb0_20_l.out z21)
      have m0_21 := Lib.hid (ownBelow M0.out h21)
      have q_a0_0 := cell_of_row w21 _ 0 _ _ _ a0_21.out
      have q_a0_1 := cell_of_row w21 _ 1 _ _ _ a0_21.out
      have q_a0_2 := cell_of_row w21 _ 2 _ _ _ a0_21.out
      simp only [List.getElem?_toArray, List.getElem?_cons_zero, List.getElem?_cons_succ] at q_a0_0 q_a0_1 q_a0_2
      go_wp2_with fail
      refine (toPegs_any p0 _).mono ?_
      rintro e w22 ⟨rfl, h22⟩
      have z22 := h22.size
      clear q_a0_0 q_a0_1 q_a0_2
      have B22 := Lib.hid (bnext B21.out h22)
      have zb22 := B22.out.size
      have a0_22 := Lib.hid ((h22.block _ a0_21_l.out).trans a0_21.out)
      have a0_22_l := Lib.hid (Nat.lt_of_lt_of_le a0_21_l.out z22)
      have u0_22 := Lib.hid (ownBelow u0_21.out h22)
      have ub0_22 := Lib.hid ((h22.block _ ub0_21_l.out).trans ub0_21.out)
      have ub0_22_l := Lib.hid (Nat.lt_of_lt_of_le ub0_21_l.out z22)
      have tb0_22 := Lib.hid ((h22.block _ tb0_21_l.out).trans tb0_21.out)
      have tb0_22_l := Lib.hid (Nat.lt_of_lt_of_le tb0_21_l.out z22)
      have m0_22 := Lib.hid (ownBelow m0_21.out h22)
      go_wp2_with fail
      refine (toInt64S_any _ zs1 _ (SL1.out.below B22.out) hn1).mono ?_
      rintro e w23 ⟨g6, rfl, lo6, hr6, h23⟩
      have z23 := h23.size
      have B23 := Lib.hid (bnext B22.out h23)
      have zb23 := B23.out.size
      have a0_23 := Lib.hid ((h23.block _ a0_22_l.out).trans a0_22.out)
      have a0_23_l := Lib.hid (Nat.lt_of_lt_of_le a0_22_l.out z23)
      have u0_23 := Lib.hid (ownBelow u0_22.out h23)
      have ub0_23 := Lib.hid ((h23.block _ ub0_22_l.out).trans ub0_22.out)
      have ub0_23_l := Lib.hid (Nat.lt_of_lt_of_le ub0_22_l.out z23)
      have tb0_23 := Lib.hid ((h23.block _ tb0_22_l.out).trans tb0_22.out)
      have tb0_23_l := Lib.hid (Nat.lt_of_lt_of_le tb0_22_l.out z23)
      have m0_23 := Lib.hid (ownBelow m0_22.out h23)
      have P6 := Lib.hid hr6
      have hi6 := hr6.lt
      clear hr6
      go_wp2_with fail
      refine (toInt64S_any _ zs2 _ (SL2.out.below B23.out) hn2).mono ?_
      rintro e w24 ⟨g7, rfl, lo7, hr7, h24⟩
      have z24 := h24.size
      have B24 := Lib.hid (bnext B23.out h24)
      have zb24 := B24.out.size
      have a0_24 := Lib.hid ((h24.block _ a0_23_l.out).trans a0_23.out)
      have a0_24_l := Lib.hid (Nat.lt_of_lt_of_le a0_23_l.out z24)
      have u0_24 := Lib.hid (ownBelow u0_23.out h24)
      have ub0_24 := Lib.hid ((h24.block _ ub0_23_l.out).trans ub0_23.out)
      have ub0_24_l := Lib.hid (Nat.lt_of_lt_of_le ub0_23_l.out z24)
      have tb0_24 := Lib.hid ((h24.block _ tb0_23_l.out).trans tb0_23.out)
      have tb0_24_l := Lib.hid (Nat.lt_of_lt_of_le tb0_23_l.out z24)
      have m0_24 := Lib.hid (ownBelow m0_23.out h24)
      have p1_24 := Lib.hid (P6.out.below h24 P6.out.lt)
      have P7 := Lib.hid hr7
      have hi7 := hr7.lt
      clear hr7
      go_wp2_with fail
      refine (IM.out _ _ _ (IRow.slice p1_24.out) (IRow.slice P7.out)).mono ?_
      rintro e w25 ⟨v0, rfl, hv0, h25⟩
      have z25 := h25.size
      have B25 := Lib.hid (bnext B24.out h25)
      have zb25 := B25.out.size
      have a0_25 := Lib.hid ((h25.block _ a0_24_l.out).trans a0_24.out)
      have a0_25_l := Lib.hid (Nat.lt_of_lt_of_le a0_24_l.out z25)
      have u0_25 := Lib.hid (ownBelow u0_24.out h25)
      have ub0_25 := Lib.hid ((h25.block _ ub0_24_l.out).trans ub0_24.out)
      have ub0_25_l := Lib.hid (Nat.lt_of_lt_of_le ub0_24_l.out z25)
      have tb0_25 := Lib.hid ((h25.block _ tb0_24_l.out).trans tb0_24.out)
      have tb0_25_l := Lib.hid (Nat.lt_of_lt_of_le tb0_24_l.out z25)
      have m0_25 := Lib.hid (ownBelow m0_24.out h25)
      have p1_25 := Lib.hid (p1_24.out.below h25 p1_24.out.lt)
      have p2_25 := Lib.hid (P7.out.below h25 P7.out.lt)
      obtain ⟨Av0, kv0, rfl⟩ := own_slK hv0
      have Fv0 := Lib.hid hv0
      have Lv0 := Lib.hid Fv0.out.lt
      clear hv0
      rw [HRC1.out]
      have h26 := (Below.refl w25.heap.size w25).alloc (Nat.le_refl _) (.cells #[.int .i16 (x0), .int .i32 (x1), (.slice Av0 (ds).length kv0)] 28)
      have X26 := Lib.hid (heap_alloc_new w25 (.cells #[.int .i16 (x0), .int .i32 (x1), (.slice Av0 (ds).length kv0)] 28))
      have Y26 := Lib.hid (show w25.heap.size < (World.alloc w25 (.cells #[.int .i16 (x0), .int .i32 (x1), (.slice Av0 (ds).length kv0)] 28)).heap.size by simp)
      have q_u_0 := (h26.cell (p := ⟨_, 0, none⟩) ub0_25_l.out).trans (cell_of_row w25 _ 0 _ _ _ ub0_25.out)
      have q_u_1 := (h26.cell (p := ⟨_, 1, none⟩) ub0_25_l.out).trans (cell_of_row w25 _ 1 _ _ _ ub0_25.out)
      have q_u_2 := (h26.cell (p := ⟨_, 2, none⟩) ub0_25_l.out).trans (cell_of_row w25 _ 2 _ _ _ ub0_25.out)
      have qp_u_0 := cell_of_row w25 _ 0 _ _ _ ub0_25.out
      have qp_u_1 := cell_of_row w25 _ 1 _ _ _ ub0_25.out
      have qp_u_2 := cell_of_row w25 _ 2 _ _ _ ub0_25.out
      have ql_u := ub0_25_l.out
      simp only [List.getElem?_toArray, List.getElem?_cons_zero, List.getElem?_cons_succ] at q_u_0 q_u_1 q_u_2 qp_u_0 qp_u_1 qp_u_2
      go_wp2_with fail
      generalize World.alloc w25 _ = w26 at X26 h26 Y26 ⊢
      have z26 := h26.size
      have yy26 := Y26.out
      have B26 := Lib.hid (bnext B25.out h26)
      have zb26 := B26.out.size
      have a0_26 := Lib.hid ((h26.block _ a0_25_l.out).trans a0_25.out)
      have a0_26_l := Lib.hid (Nat.lt_of_lt_of_le a0_25_l.out z26)
      have u0_26 := Lib.hid (ownBelow u0_25.out h26)
      have ub0_26 := Lib.hid ((h26.block _ ub0_25_l.out).trans ub0_25.out)
      have ub0_26_l := Lib.hid (Nat.lt_of_lt_of_le ub0_25_l.out z26)
      have tb0_26 := Lib.hid ((h26.block _ tb0_25_l.out).trans tb0_25.out)
      have tb0_26_l := Lib.hid (Nat.lt_of_lt_of_le tb0_25_l.out z26)
      have m0_26 := Lib.hid (ownBelow m0_25.out h26)
      have v0_26 := Lib.hid (ownBelow Fv0.out h26)
      refine (eqCase_sameR ⟨x0, x1, ds⟩ _ _ _ (ownInts v0_26.out) (ownInts u0_26.out) LM0.out).mono ?_
      rintro e w27 ⟨rfl, h27⟩
      have z27 := h27.size
      clear q_u_0 q_u_1 q_u_2 qp_u_0 qp_u_1 qp_u_2 ql_u
      have B27 := Lib.hid (bnext B26.out h27)
      have zb27 := B27.out.size
      have a0_27 := Lib.hid ((h27.block _ a0_26_l.out).trans a0_26.out)
      have a0_27_l := Lib.hid (Nat.lt_of_lt_of_le a0_26_l.out z27)
      have u0_27 := Lib.hid (ownBelow u0_26.out h27)
      have ub0_27 := Lib.hid ((h27.block _ ub0_26_l.out).trans ub0_26.out)
      have ub0_27_l := Lib.hid (Nat.lt_of_lt_of_le ub0_26_l.out z27)
      have tb0_27 := Lib.hid ((h27.block _ tb0_26_l.out).trans tb0_26.out)
      have tb0_27_l := Lib.hid (Nat.lt_of_lt_of_le tb0_26_l.out z27)
      have m0_27 := Lib.hid (ownBelow m0_26.out h27)
      have v0_27 := Lib.hid (ownBelow v0_26.out h27)
      have vb0_27 := Lib.hid ((h27.block _ Y26.out).trans X26.out)
      have vb0_27_l := Lib.hid (Nat.lt_of_lt_of_le Y26.out z27)
      have q_tb0_0 := cell_of_row w27 _ 0 _ _ _ tb0_27.out
      have q_tb0_1 := cell_of_row w27 _ 1 _ _ _ tb0_27.out
      have q_tb0_2 := cell_of_row w27 _ 2 _ _ _ tb0_27.out
      simp only [List.getElem?_toArray, List.getElem?_cons_zero, List.getElem?_cons_succ] at q_tb0_0 q_tb0_1 q_tb0_2
      go_wp2_with fail
      refine (heldCaseO (x0) (x1) At0 kt0 (ds) _ _ LE0.out m0_27.out).mono ?_
      rintro e w28 ⟨rfl, h28⟩
      have z28 := h28.size
      clear q_tb0_0 q_tb0_1 q_tb0_2
      have B28 := Lib.hid (bnext B27.out h28)
      have zb28 := B28.out.size
      have a0_28 := Lib.hid ((h28.block _ a0_27_l.out).trans a0_27.out)
      have a0_28_l := Lib.hid (Nat.lt_of_lt_of_le a0_27_l.out z28)
      have u0_28 := Lib.hid (ownBelow u0_27.out h28)
      have ub0_28 := Lib.hid ((h28.block _ ub0_27_l.out).trans ub0_27.out)
      have ub0_28_l := Lib.hid (Nat.lt_of_lt_of_le ub0_27_l.out z28)
      have tb0_28 := Lib.hid ((h28.block _ tb0_27_l.out).trans tb0_27.out)
      have tb0_28_l := Lib.hid (Nat.lt_of_lt_of_le tb0_27_l.out z28)
      have m0_28 := Lib.hid (ownBelow m0_27.out h28)
      have v0_28 := Lib.hid (ownBelow v0_27.out h28)
      have vb0_28 := Lib.hid ((h28.block _ vb0_27_l.out).trans vb0_27.out)
      have vb0_28_l := Lib.hid (Nat.lt_of_lt_of_le vb0_27_l.out z28)
      go_wp2
      go_ret
      exact ⟨rfl, B28.out⟩
    · have e2 : (1048576 : Int) < (zs2.length : Int) := by omega
      go_enter Try.func3, Try.ntmps3
      go_wp2
      go_ret
      exact ⟨rfl, by go_grown⟩
  · have e1 : (1048576 : Int) < (zs1.length : Int) := by omega
    go_enter Try.func3, Try.ntmps3
    go_wp2
    go_ret
    exact ⟨rfl, by go_grown⟩

end Go.Proofs.Ytblgoflkcomncaa
