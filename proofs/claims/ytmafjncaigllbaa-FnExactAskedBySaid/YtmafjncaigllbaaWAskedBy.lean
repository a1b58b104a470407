/- The law of AskedBy, walked. No condition. -/
import Derived.Test.YtmafjncaigllbaaDkQAskedBy
import Derived.Test.YtmafjncaigllbaaDkM
import Derived.Deep.RegionHeld3
namespace Go.Proofs.Ytmafjncaigllbaa
set_option linter.unusedSimpArgs false
set_option linter.unusedVariables false
set_option maxRecDepth 100000
open Go.RowKit

set_option maxHeartbeats 16000000 in
theorem walkAskedBy (d0 : Dk) (hv0 : Value) (wf0 : d0.Wf ∧ ∀ c ∈ d0.cs, c.q.length ≤ maxLen) (a1 : Int) (wf1 : (Lit.int .i64 a1).wf = true) (w : World) (sl0 : CpsOf w hv0 d0.cs) (ml0 : d0.cs.length ≤ maxLen) :
    Calls Try.prog 7 #[.agg #[.int .i16 d0.day, hv0], .int .i64 a1] w fun e w' => e = .returned (.bool true) ∧ Below w.heap.size w w' := by
  have mx0 : d0.cs.length ≤ 9223372036854775807 := by unfold maxLen at ml0; omega
  have SL0 := Lib.hid sl0
  have WF0 := Lib.hid wf0
  have ML0 := Lib.hid ml0
  obtain ⟨A0, k0, rfl, -⟩ := sl0
  have WI1 := Lib.hid wf1
  clear wf0 ml0 wf1
  by_cases hn0 : (csz d0.cs : Int) ≤ 1048576
  · have e0 : ¬ (1048576 - (csz d0.cs : Int) < 0) := by omega
    go_enter Try.func7, Try.ntmps7
    have h1 := (Below.refl w.heap.size w).alloc (Nat.le_refl _) (.cells #[.int .i16 d0.day, .slice A0 d0.cs.length k0] 25)
    have X1 := Lib.hid (heap_alloc_new w (.cells #[.int .i16 d0.day, .slice A0 d0.cs.length k0] 25))
    have Y1 := Lib.hid (show w.heap.size < (World.alloc w (.cells #[.int .i16 d0.day, .slice A0 d0.cs.length k0] 25)).heap.size by simp)
    go_wp2_with fail
    generalize World.alloc w _ = w1 at X1 h1 Y1 ⊢
    have z1 := h1.size
    have yy1 := Y1.out
    have B1 := Lib.hid h1
    have zb1 := B1.out.size
    refine (szDesk_left d0 _ _ _ (SL0.out.below B1.out) WF0.out.2 ML0.out (by omega) (by omega)).mono ?_
    rintro e w2 ⟨rfl, h2⟩
    have z2 := h2.size
    have B2 := Lib.hid (bnext B1.out h2)
    have zb2 := B2.out.size
    have a0_2 := Lib.hid ((h2.block _ Y1.out).trans X1.out)
    have a0_2_l := Lib.hid (Nat.lt_of_lt_of_le Y1.out z2)
    rw [if_pos (by omega)]
    replace hn0 : csz d0.cs ≤ 1048576 := by omega
    have LR0 := Lib.hid (show (wh (cnCs d0 a1) (askedB a1)).length ≤ 1048576 from Nat.le_trans (wh_len _ _) (cnCs_len hn0))
    have LM0 := Lib.hid (show (wh (cnCs d0 a1) (askedB a1)).length ≤ maxLen from Nat.le_trans LR0.out (by unfold maxLen; omega))
    have q_a0_0 := cell_of_row w2 _ 0 _ _ _ a0_2.out
    have q_a0_1 := cell_of_row w2 _ 1 _ _ _ a0_2.out
    simp only [List.getElem?_toArray, List.getElem?_cons_zero, List.getElem?_cons_succ] at q_a0_0 q_a0_1
    go_wp2_with fail
    refine (toDesk_any d0 _ _ (SL0.out.below B2.out) hn0).mono ?_
    rintro e w3 ⟨g0, rfl, lo0, hr0, h3⟩
    have z3 := h3.size
    clear q_a0_0 q_a0_1
    have B3 := Lib.hid (bnext B2.out h3)
    have zb3 := B3.out.size
    have a0_3 := Lib.hid ((h3.block _ a0_2_l.out).trans a0_2.out)
    have a0_3_l := Lib.hid (Nat.lt_of_lt_of_le a0_2_l.out z3)
    have P0 := Lib.hid hr0
    have hi0 := hr0.lt
    clear hr0
    go_wp2_with fail
    refine (specAskedBy_any d0 _ WF0.out a1 _ (CRowK.cps P0.out _) ML0.out).mono ?_
    rintro e w4 ⟨u0, rfl, hu0, h4⟩
    have z4 := h4.size
    have B4 := Lib.hid (bnext B3.out h4)
    have zb4 := B4.out.size
    have a0_4 := Lib.hid ((h4.block _ a0_3_l.out).trans a0_3.out)
    have a0_4_l := Lib.hid (Nat.lt_of_lt_of_le a0_3_l.out z4)
    have s0_4 := Lib.hid (P0.out.below h4)
    have Fu0 := Lib.hid hu0
    have Lu0 := Lib.hid Fu0.out.lt
    clear hu0
    have q_a0_0 := cell_of_row w4 _ 0 _ _ _ a0_4.out
    have q_a0_1 := cell_of_row w4 _ 1 _ _ _ a0_4.out
    simp only [List.getElem?_toArray, List.getElem?_cons_zero, List.getElem?_cons_succ] at q_a0_0 q_a0_1
    go_wp2_with fail
    refine (toDesk_any d0 _ _ (SL0.out.below B4.out) hn0).mono ?_
    rintro e w5 ⟨g1, rfl, lo1, hr1, h5⟩
    have z5 := h5.size
    clear q_a0_0 q_a0_1
    have B5 := Lib.hid (bnext B4.out h5)
    have zb5 := B5.out.size
    have a0_5 := Lib.hid ((h5.block _ a0_4_l.out).trans a0_4.out)
    have a0_5_l := Lib.hid (Nat.lt_of_lt_of_le a0_4_l.out z5)
    have u0_5 := Lib.hid (ownBelow Fu0.out h5)
    have P1 := Lib.hid hr1
    have hi1 := hr1.lt
    clear hr1
    have PX1 := Lib.hid (CRowX.of P1.out)
    have h6 := (Below.refl w5.heap.size w5).alloc (Nat.le_refl _) (.cells #[.int .i16 d0.day, .slice (some ⟨g1, 0, none⟩) d0.cs.length d0.cs.length] 30)
    have X6 := Lib.hid (heap_alloc_new w5 (.cells #[.int .i16 d0.day, .slice (some ⟨g1, 0, none⟩) d0.cs.length d0.cs.length] 30))
    have Y6 := Lib.hid (show w5.heap.size < (World.alloc w5 (.cells #[.int .i16 d0.day, .slice (some ⟨g1, 0, none⟩) d0.cs.length d0.cs.length] 30)).heap.size by simp)
    go_wp2_with fail
    generalize World.alloc w5 _ = w6 at X6 h6 Y6 ⊢
    have z6 := h6.size
    have yy6 := Y6.out
    have B6 := Lib.hid (bnext B5.out h6)
    have zb6 := B6.out.size
    have a0_6 := Lib.hid ((h6.block _ a0_5_l.out).trans a0_5.out)
    have a0_6_l := Lib.hid (Nat.lt_of_lt_of_le a0_5_l.out z6)
    have u0_6 := Lib.hid (ownBelow u0_5.out h6)
    have Xx0_6 := Lib.hid (PX1.out.below h6)
    have x0_6 := Lib.hid (P1.out.below h6)
    refine (implAskedBy_any d0 WF0.out a1 _ _ x0_6.out ML0.out).mono ?_
    rintro e w7 ⟨t0, rfl, ht0, h7⟩
    have z7 := h7.size
    have B7 := Lib.hid (bnext B6.out h7)
    have zb7 := B7.out.size
    have a0_7 := Lib.hid ((h7.block _ a0_6_l.out).trans a0_6.out)
    have a0_7_l := Lib.hid (Nat.lt_of_lt_of_le a0_6_l.out z7)
    have u0_7 := Lib.hid (ownBelow u0_6.out h7)
    have Xx0_7 := Lib.hid (Xx0_6.out.below h7)
    have x0_7 := Lib.hid (x0_6.out.below h7)
    have y0_7 := Lib.hid ((h7.block _ Y6.out).trans X6.out)
    have y0_7_l := Lib.hid (Nat.lt_of_lt_of_le Y6.out z7)
    have Ft0 := Lib.hid ht0
    have Lt0 := Lib.hid Ft0.out.lt
    clear ht0
    generalize hrc1 : cnC d0 a1 = rc1
    have HRC1 := Lib.hid hrc1
    clear hrc1
    go_wp2_with fail
    refine (eqInt64S_same' _ _ (wh (cnCs d0 a1) (askedB a1)) _ (ownInts Ft0.out) (ownInts u0_7.out) LM0.out).mono ?_
    rintro e w8 ⟨rfl, h8⟩
    have z8 := h8.size
    have B8 := Lib.hid (bnext B7.out h8)
    have zb8 := B8.out.size
    have a0_8 := Lib.hid ((h8.block _ a0_7_l.out).trans a0_7.out)
    have a0_8_l := Lib.hid (Nat.lt_of_lt_of_le a0_7_l.out z8)
    have u0_8 := Lib.hid (ownBelow u0_7.out h8)
    have Xx0_8 := Lib.hid (Xx0_7.out.below h8)
    have x0_8 := Lib.hid (x0_7.out.below h8)
    have y0_8 := Lib.hid ((h8.block _ y0_7_l.out).trans y0_7.out)
    have y0_8_l := Lib.hid (Nat.lt_of_lt_of_le y0_7_l.out z8)
    have t0_8 := Lib.hid (ownBelow Ft0.out h8)
    have b0_0 : Below w8.heap.size w8 w8.drew := (Below.refl _ _).drew
    have HK0 := Lib.hid (show ∀ W1, Below w8.heap.size w8 W1 → (fun W1 => Below w8.heap.size w8 W1 ∧ W1.cell? ⟨w5.heap.size, 0, none⟩ = some (.int .i16 d0.day) ∧ W1.cell? ⟨w5.heap.size, 1, none⟩ = some (.slice (some ⟨g1, 0, none⟩) d0.cs.length d0.cs.length) ∧ W1.cell? ⟨w.heap.size, 0, none⟩ = some (.int .i16 d0.day) ∧ W1.cell? ⟨w.heap.size, 1, none⟩ = some (.slice A0 d0.cs.length k0)) W1 from fun W1 hB => ⟨hB, (hB.cell (p := ⟨_, 0, none⟩) y0_8_l.out).trans (cell_of_row w8 _ 0 _ _ _ y0_8.out), (hB.cell (p := ⟨_, 1, none⟩) y0_8_l.out).trans (cell_of_row w8 _ 1 _ _ _ y0_8.out), (hB.cell (p := ⟨_, 0, none⟩) a0_8_l.out).trans (cell_of_row w8 _ 0 _ _ _ a0_8.out), (hB.cell (p := ⟨_, 1, none⟩) a0_8_l.out).trans (cell_of_row w8 _ 1 _ _ _ a0_8.out)⟩)
    have RR0 := Lib.hid (CRowK.cps x0_8.out d0.cs.length)
    go_wp2
    go_region_held3 (fun W1 => Below w8.heap.size w8 W1 ∧ W1.cell? ⟨w5.heap.size, 0, none⟩ = some (.int .i16 d0.day) ∧ W1.cell? ⟨w5.heap.size, 1, none⟩ = some (.slice (some ⟨g1, 0, none⟩) d0.cs.length d0.cs.length) ∧ W1.cell? ⟨w.heap.size, 0, none⟩ = some (.int .i16 d0.day) ∧ W1.cell? ⟨w.heap.size, 1, none⟩ = some (.slice A0 d0.cs.length k0)) (first | exact HK0.out _ b0_0 | (refine HK0.out _ (bnext ?_ hq); exact And.left (by assumption))) (first
      | (go_at_call 17; refine (toDesk_any d0 _ _ (SL0.out.below (bnext B8.out (And.left (by assumption)))) hn0).mono ?_; rintro e w' ⟨gz, rfl, hg, hr, hq⟩; have HR := Lib.hid (CRowK.cps hr d0.cs.length); clear hr hg)
      | (go_at_call 19; refine (eqDesk_same d0 _ _ _ (RR0.out.below (And.left (by assumption))) HR.out WF0.out.2 ML0.out).mono ?_; rintro e w9 ⟨rfl, hq⟩))
    all_goals
      have h9 : Below w8.heap.size w8 w9 := And.left (by assumption)
      have z9 := h9.size
      clear HK0 b0_0 RR0 HR
      have B9 := Lib.hid (bnext B8.out h9)
      have zb9 := B9.out.size
      have a0_9 := Lib.hid ((h9.block _ a0_8_l.out).trans a0_8.out)
      have a0_9_l := Lib.hid (Nat.lt_of_lt_of_le a0_8_l.out z9)
      have u0_9 := Lib.hid (ownBelow u0_8.out h9)
      have Xx0_9 := Lib.hid (Xx0_8.out.below h9)
      have x0_9 := Lib.hid (x0_8.out.below h9)
      have y0_9 := Lib.hid ((h9.block _ y0_8_l.out).trans y0_8.out)
      have y0_9_l := Lib.hid (Nat.lt_of_lt_of_le y0_8_l.out z9)
      have t0_9 := Lib.hid (ownBelow t0_8.out h9)
      have q_y0_0 := cell_of_row w9 _ 0 _ _ _ y0_9.out
      have q_y0_1 := cell_of_row w9 _ 1 _ _ _ y0_9.out
      simp only [List.getElem?_toArray, List.getElem?_cons_zero, List.getElem?_cons_succ] at q_y0_0 q_y0_1
      go_wp2_with fail
      refine (markDeskX_any d0 g1 _ 1 _ Xx0_9.out hn0 (by omega) (by omega)).mono ?_
      rintro e w10 ⟨rfl, h10⟩
      have z10 := h10.size
      clear q_y0_0 q_y0_1
      have B10 := Lib.hid (below_inOnly B9.out h10 (by omega) (by omega))
      have zb10 := B10.out.size
      have a0_10 := Lib.hid ((h10.block _ a0_9_l.out (.inl (by omega))).trans a0_9.out)
      have a0_10_l := Lib.hid (Nat.lt_of_lt_of_le a0_9_l.out z10)
      have u0_10 := Lib.hid (ownIn u0_9.out h10 (fun k hk => .inl (by have := Lu0.out k hk; omega)))
      have y0_10 := Lib.hid ((h10.block _ y0_9_l.out (.inr (by omega))).trans y0_9.out)
      have y0_10_l := Lib.hid (Nat.lt_of_lt_of_le y0_9_l.out z10)
      have t0_10 := Lib.hid (ownIn t0_9.out h10 (fun k hk => .inr (by have := Lt0.out k hk; omega)))
      have kb10 := kTo_nonneg d0.cs d0.cs.length
      have kc10 := kTo_le hn0
      generalize hkk10 : 1 + kTo d0.cs d0.cs.length = kk10
      have kl10 : 0 ≤ kk10 := by omega
      have ku10 : kk10 ≤ 20000000 := by omega
      clear hkk10 kb10 kc10
      have kd : decide (kk10 < 0) = false := by simp; omega
      have kd2 : ¬ (kk10 < 0) := by omega
      go_wp2_with fail
      refine (eqInt64S_same' _ _ (wh (cnCs d0 a1) (askedB a1)) _ (ownInts t0_10.out) (ownInts u0_10.out) LM0.out).mono ?_
      rintro e w11 ⟨rfl, h11⟩
      have z11 := h11.size
      have B11 := Lib.hid (bnext B10.out h11)
      have zb11 := B11.out.size
      have a0_11 := Lib.hid ((h11.block _ a0_10_l.out).trans a0_10.out)
      have a0_11_l := Lib.hid (Nat.lt_of_lt_of_le a0_10_l.out z11)
      have u0_11 := Lib.hid (ownBelow u0_10.out h11)
      have y0_11 := Lib.hid ((h11.block _ y0_10_l.out).trans y0_10.out)
      have y0_11_l := Lib.hid (Nat.lt_of_lt_of_le y0_10_l.out z11)
      have t0_11 := Lib.hid (ownBelow t0_10.out h11)
      go_wp2_with fail
      refine (markI64_any t0 (wh (cnCs d0 a1) (askedB a1)) 1 _ _ LR0.out (by omega) (by omega) t0_11.out).mono ?_
      rintro e w12 ⟨rfl, hm0, h12⟩
      have z12 := h12.size
      have M0 := Lib.hid hm0
      clear hm0
      have B12 := Lib.hid (B11.out.grown h12 B11.out.size (fun k hk => by have := Lt0.out k hk; omega))
      have zb12 := B12.out.size
      have a0_12 := Lib.hid ((h12.block _ a0_11_l.out (fun e => by have := Lt0.out _ e.symm; omega)).trans a0_11.out)
      have a0_12_l := Lib.hid (Nat.lt_of_lt_of_le a0_11_l.out z12)
      have u0_12 := Lib.hid (ownOther u0_11.out h12 (fun k hk e => by have := Lu0.out k hk; have := Lt0.out k e.symm; omega))
      have y0_12 := Lib.hid ((h12.block _ y0_11_l.out (fun e => by have := Lt0.out _ e.symm; omega)).trans y0_11.out)
      have y0_12_l := Lib.hid (Nat.lt_of_lt_of_le y0_11_l.out z12)
      go_wp2_with fail
      refine (heldI64_any t0 (wh (cnCs d0 a1) (askedB a1)) 1 _ LR0.out (by omega) (by omega) (ownInts M0.out)).mono ?_
      rintro e w13 ⟨rfl, h13⟩
      have z13 := h13.size
      have B13 := Lib.hid (bnext B12.out h13)
      have zb13 := B13.out.size
      have a0_13 := Lib.hid ((h13.block _ a0_12_l.out).trans a0_12.out)
      have a0_13_l := Lib.hid (Nat.lt_of_lt_of_le a0_12_l.out z13)
      have u0_13 := Lib.hid (ownBelow u0_12.out h13)
      have y0_13 := Lib.hid ((h13.block _ y0_12_l.out).trans y0_12.out)
      have y0_13_l := Lib.hid (Nat.lt_of_lt_of_le y0_12_l.out z13)
      have m0_13 := Lib.hid (ownBelow M0.out h13)
      have q_a0_0 := cell_of_row w13 _ 0 _ _ _ a0_13.out
      have q_a0_1 := cell_of_row w13 _ 1 _ _ _ a0_13.out
      simp only [List.getElem?_toArray, List.getElem?_cons_zero, List.getElem?_cons_succ] at q_a0_0 q_a0_1
      go_wp2_with fail
      refine (toDesk_any d0 _ _ (SL0.out.below B13.out) hn0).mono ?_
      rintro e w14 ⟨g2, rfl, lo2, hr2, h14⟩
      have z14 := h14.size
      clear q_a0_0 q_a0_1
      have B14 := Lib.hid (bnext B13.out h14)
      have zb14 := B14.out.size
      have a0_14 := Lib.hid ((h14.block _ a0_13_l.out).trans a0_13.out)
      have a0_14_l := Lib.hid (Nat.lt_of_lt_of_le a0_13_l.out z14)
      have u0_14 := Lib.hid (ownBelow u0_13.out h14)
      have y0_14 := Lib.hid ((h14.block _ y0_13_l.out).trans y0_13.out)
      have y0_14_l := Lib.hid (Nat.lt_of_lt_of_le y0_13_l.out z14)
      have m0_14 := Lib.hid (ownBelow m0_13.out h14)
      have P2 := Lib.hid hr2
      have hi2 := hr2.lt
      clear hr2
      go_wp2_with fail
      refine (implAskedBy_any d0 WF0.out a1 _ _ P2.out ML0.out).mono ?_
      rintro e w15 ⟨v0, rfl, hv0, h15⟩
      have z15 := h15.size
      have B15 := Lib.hid (bnext B14.out h15)
      have zb15 := B15.out.size
      have a0_15 := Lib.hid ((h15.block _ a0_14_l.out).trans a0_14.out)
      have a0_15_l := Lib.hid (Nat.lt_of_lt_of_le a0_14_l.out z15)
      have u0_15 := Lib.hid (ownBelow u0_14.out h15)
      have y0_15 := Lib.hid ((h15.block _ y0_14_l.out).trans y0_14.out)
      have y0_15_l := Lib.hid (Nat.lt_of_lt_of_le y0_14_l.out z15)
      have m0_15 := Lib.hid (ownBelow m0_14.out h15)
      have p0_15 := Lib.hid (P2.out.below h15)
      have Fv0 := Lib.hid hv0
      have Lv0 := Lib.hid Fv0.out.lt
      clear hv0
      rw [HRC1.out]
      go_wp2_with fail
      refine (eqInt64S_same' _ _ (wh (cnCs d0 a1) (askedB a1)) _ (ownInts Fv0.out) (ownInts u0_15.out) LM0.out).mono ?_
      rintro e w16 ⟨rfl, h16⟩
      have z16 := h16.size
      have B16 := Lib.hid (bnext B15.out h16)
      have zb16 := B16.out.size
      have a0_16 := Lib.hid ((h16.block _ a0_15_l.out).trans a0_15.out)
      have a0_16_l := Lib.hid (Nat.lt_of_lt_of_le a0_15_l.out z16)
      have u0_16 := Lib.hid (ownBelow u0_15.out h16)
      have y0_16 := Lib.hid ((h16.block _ y0_15_l.out).trans y0_15.out)
      have y0_16_l := Lib.hid (Nat.lt_of_lt_of_le y0_15_l.out z16)
      have m0_16 := Lib.hid (ownBelow m0_15.out h16)
      have v0_16 := Lib.hid (ownBelow Fv0.out h16)
      go_wp2_with fail
      refine (heldI64_any t0 (wh (cnCs d0 a1) (askedB a1)) 1 _ LR0.out (by omega) (by omega) (ownInts m0_16.out)).mono ?_
      rintro e w17 ⟨rfl, h17⟩
      have z17 := h17.size
      have B17 := Lib.hid (bnext B16.out h17)
      have zb17 := B17.out.size
      have a0_17 := Lib.hid ((h17.block _ a0_16_l.out).trans a0_16.out)
      have a0_17_l := Lib.hid (Nat.lt_of_lt_of_le a0_16_l.out z17)
      have u0_17 := Lib.hid (ownBelow u0_16.out h17)
      have y0_17 := Lib.hid ((h17.block _ y0_16_l.out).trans y0_16.out)
      have y0_17_l := Lib.hid (Nat.lt_of_lt_of_le y0_16_l.out z17)
      have m0_17 := Lib.hid (ownBelow m0_16.out h17)
      have v0_17 := Lib.hid (ownBelow v0_16.out h17)
      go_wp2
      go_ret
      exact ⟨rfl, B17.out⟩
  · have e0 : (1048576 - (csz d0.cs : Int) < 0) := by omega
    go_enter Try.func7, Try.ntmps7
    have h1 := (Below.refl w.heap.size w).alloc (Nat.le_refl _) (.cells #[.int .i16 d0.day, .slice A0 d0.cs.length k0] 25)
    have X1 := Lib.hid (heap_alloc_new w (.cells #[.int .i16 d0.day, .slice A0 d0.cs.length k0] 25))
    have Y1 := Lib.hid (show w.heap.size < (World.alloc w (.cells #[.int .i16 d0.day, .slice A0 d0.cs.length k0] 25)).heap.size by simp)
    go_wp2_with fail
    generalize World.alloc w _ = w1 at X1 h1 Y1 ⊢
    have z1 := h1.size
    have yy1 := Y1.out
    have B1 := Lib.hid h1
    have zb1 := B1.out.size
    refine (szDesk_left d0 _ _ _ (SL0.out.below B1.out) WF0.out.2 ML0.out (by omega) (by omega)).mono ?_
    rintro e w2 ⟨rfl, h2⟩
    have z2 := h2.size
    have B2 := Lib.hid (bnext B1.out h2)
    have zb2 := B2.out.size
    have a0_2 := Lib.hid ((h2.block _ Y1.out).trans X1.out)
    have a0_2_l := Lib.hid (Nat.lt_of_lt_of_le Y1.out z2)
    rw [if_neg (by omega)]
    go_wp2
    go_ret
    exact ⟨rfl, B2.out⟩

end Go.Proofs.Ytmafjncaigllbaa
