/- The law of SpreadRack, walked. Condition: the three error variables hold three different errors of errors.New's make. -/
import Derived.Test.YtlphpajpjpohmaaDoorRkX2
import Derived.Test.YtlphpajpjpohmaaDoorRkX3
import Derived.Test.YtlphpajpjpohmaaDoorRk
import Derived.Test.YtlphpajpjpohmaaDoorRkK2
import Derived.Deep.RegionHeld3
namespace Go.Proofs.YtlphpajpjpohmaaDoor
set_option linter.unusedSimpArgs false
set_option linter.unusedVariables false
set_option maxRecDepth 100000
open Go.RowKit

set_option maxHeartbeats 16000000 in
theorem walkSpreadRack (r0 : Rk) (hv0 : Value) (wf0 : r0.Wf) (w : World) (s i : Addr) (he : Er2 w s i) (sl0 : PlsOf w hv0 r0.ps) (ml0 : r0.ps.length ≤ maxLen) :
    Calls Tryd.prog 13 #[.agg #[.int .i16 r0.n, hv0]] w fun e w' => e = .returned (.bool true) ∧ Below w.heap.size w w' := by
  have mx0 : r0.ps.length ≤ 9223372036854775807 := by unfold maxLen at ml0; omega
  have SL0 := Lib.hid sl0
  have WF0 := Lib.hid wf0
  have ML0 := Lib.hid ml0
  obtain ⟨A0, k0, rfl, -⟩ := sl0
  have HE := Lib.hid he
  clear wf0 ml0 he
  by_cases hn0 : (r0.ps.length : Int) ≤ 1048576
  · have e0 : ¬ (1048576 - (r0.ps.length : Int) < 0) := by omega
    go_enter Tryd.func13, Tryd.ntmps13
    have h1 := (Below.refl w.heap.size w).alloc (Nat.le_refl _) (.cells #[.int .i16 r0.n, .slice A0 r0.ps.length k0] 25)
    have X1 := Lib.hid (heap_alloc_new w (.cells #[.int .i16 r0.n, .slice A0 r0.ps.length k0] 25))
    have Y1 := Lib.hid (show w.heap.size < (World.alloc w (.cells #[.int .i16 r0.n, .slice A0 r0.ps.length k0] 25)).heap.size by simp)
    go_wp2_with fail
    generalize World.alloc w _ = w1 at X1 h1 Y1 ⊢
    have z1 := h1.size
    have yy1 := Y1.out
    have B1 := Lib.hid h1
    have zb1 := B1.out.size
    refine (szRack_left r0 _ _ _ _ mx0 (by omega) (by omega)).mono ?_
    rintro e w2 ⟨rfl, h2⟩
    have z2 := h2.size
    have B2 := Lib.hid (bnext B1.out h2)
    have zb2 := B2.out.size
    have a0_2 := Lib.hid ((h2.block _ Y1.out).trans X1.out)
    have a0_2_l := Lib.hid (Nat.lt_of_lt_of_le Y1.out z2)
    rw [if_pos (by omega)]
    replace hn0 : r0.ps.length ≤ 1048576 := by omega
    have LR0 := Lib.hid (show (srL r0).length ≤ 1048576 from Nat.le_trans (srL_len r0) hn0)
    have LM0 := Lib.hid (show (srL r0).length ≤ maxLen from Nat.le_trans LR0.out (by unfold maxLen; omega))
    have q_a0_0 := cell_of_row w2 _ 0 _ _ _ a0_2.out
    have q_a0_1 := cell_of_row w2 _ 1 _ _ _ a0_2.out
    simp only [List.getElem?_toArray, List.getElem?_cons_zero, List.getElem?_cons_succ] at q_a0_0 q_a0_1
    go_wp2_with fail
    refine (toRack_any r0 _ _ (SL0.out.below B2.out) hn0).mono ?_
    rintro e w3 ⟨g0, rfl, lo0, hr0, h3⟩
    have z3 := h3.size
    clear q_a0_0 q_a0_1
    have B3 := Lib.hid (bnext B2.out h3)
    have zb3 := B3.out.size
    have a0_3 := Lib.hid ((h3.block _ a0_2_l.out).trans a0_2.out)
    have a0_3_l := Lib.hid (Nat.lt_of_lt_of_le a0_2_l.out z3)
    have P0 := Lib.hid hr0
    have hi0 := hr0.lt
    clear hr0
    go_wp2_with fail
    refine (specSpreadRack_any r0 _ WF0.out _ (RowN.slice P0.out) ML0.out).mono ?_
    rintro e w4 ⟨u0, rfl, hu0, h4⟩
    have z4 := h4.size
    have B4 := Lib.hid (bnext B3.out h4)
    have zb4 := B4.out.size
    have a0_4 := Lib.hid ((h4.block _ a0_3_l.out).trans a0_3.out)
    have a0_4_l := Lib.hid (Nat.lt_of_lt_of_le a0_3_l.out z4)
    have s0_4 := Lib.hid (P0.out.below h4 P0.out.lt)
    obtain ⟨Au0, nu0, ku0, rfl⟩ := hu0.form
    have Fu0 := Lib.hid hu0
    have Lu0 := Lib.hid Fu0.out.lt
    clear hu0
    have h5 := (Below.refl w4.heap.size w4).alloc (Nat.le_refl _) (.cells #[.int .i16 (srN r0), (.slice Au0 nu0 ku0)] 30)
    have X5 := Lib.hid (heap_alloc_new w4 (.cells #[.int .i16 (srN r0), (.slice Au0 nu0 ku0)] 30))
    have Y5 := Lib.hid (show w4.heap.size < (World.alloc w4 (.cells #[.int .i16 (srN r0), (.slice Au0 nu0 ku0)] 30)).heap.size by simp)
    have q_a0_0 := (h5.cell (p := ⟨_, 0, none⟩) a0_4_l.out).trans (cell_of_row w4 _ 0 _ _ _ a0_4.out)
    have qp_a0_0 := cell_of_row w4 _ 0 _ _ _ a0_4.out
    have q_a0_1 := (h5.cell (p := ⟨_, 1, none⟩) a0_4_l.out).trans (cell_of_row w4 _ 1 _ _ _ a0_4.out)
    have qp_a0_1 := cell_of_row w4 _ 1 _ _ _ a0_4.out
    simp only [List.getElem?_toArray, List.getElem?_cons_zero, List.getElem?_cons_succ] at q_a0_0 q_a0_1 qp_a0_0 qp_a0_1
    have ql_a0 := a0_4_l.out
    go_wp2_with fail
    generalize World.alloc w4 _ = w5 at X5 h5 Y5 ⊢
    have z5 := h5.size
    have yy5 := Y5.out
    have B5 := Lib.hid (bnext B4.out h5)
    have zb5 := B5.out.size
    have a0_5 := Lib.hid ((h5.block _ a0_4_l.out).trans a0_4.out)
    have a0_5_l := Lib.hid (Nat.lt_of_lt_of_le a0_4_l.out z5)
    have u0_5 := Lib.hid (Fu0.out.below h5)
    refine (toRack_any r0 _ _ (SL0.out.below B5.out) hn0).mono ?_
    rintro e w6 ⟨g1, rfl, lo1, hr1, h6⟩
    have z6 := h6.size
    clear q_a0_0 q_a0_1 qp_a0_0 qp_a0_1
    have B6 := Lib.hid (bnext B5.out h6)
    have zb6 := B6.out.size
    have a0_6 := Lib.hid ((h6.block _ a0_5_l.out).trans a0_5.out)
    have a0_6_l := Lib.hid (Nat.lt_of_lt_of_le a0_5_l.out z6)
    have u0_6 := Lib.hid (u0_5.out.below h6)
    have ub0_6 := Lib.hid ((h6.block _ Y5.out).trans X5.out)
    have ub0_6_l := Lib.hid (Nat.lt_of_lt_of_le Y5.out z6)
    have P1 := Lib.hid hr1
    have hi1 := hr1.lt
    clear hr1
    have h7 := (Below.refl w6.heap.size w6).alloc (Nat.le_refl _) (.cells #[.int .i16 r0.n, .slice (some ⟨g1, 0, none⟩) r0.ps.length r0.ps.length] 30)
    have X7 := Lib.hid (heap_alloc_new w6 (.cells #[.int .i16 r0.n, .slice (some ⟨g1, 0, none⟩) r0.ps.length r0.ps.length] 30))
    have Y7 := Lib.hid (show w6.heap.size < (World.alloc w6 (.cells #[.int .i16 r0.n, .slice (some ⟨g1, 0, none⟩) r0.ps.length r0.ps.length] 30)).heap.size by simp)
    go_wp2_with fail
    generalize World.alloc w6 _ = w7 at X7 h7 Y7 ⊢
    have z7 := h7.size
    have yy7 := Y7.out
    have B7 := Lib.hid (bnext B6.out h7)
    have zb7 := B7.out.size
    have a0_7 := Lib.hid ((h7.block _ a0_6_l.out).trans a0_6.out)
    have a0_7_l := Lib.hid (Nat.lt_of_lt_of_le a0_6_l.out z7)
    have u0_7 := Lib.hid (u0_6.out.below h7)
    have ub0_7 := Lib.hid ((h7.block _ ub0_6_l.out).trans ub0_6.out)
    have ub0_7_l := Lib.hid (Nat.lt_of_lt_of_le ub0_6_l.out z7)
    have x0_7 := Lib.hid (P1.out.below h7 P1.out.lt)
    refine (spreadRack_any r0 _ WF0.out _ s i (HE.out.below B7.out) (RowN.slice x0_7.out) hn0).mono ?_
    rintro e w8 ⟨t0, rfl, ht0, h8⟩
    have z8 := h8.size
    have B8 := Lib.hid (bnext B7.out h8)
    have zb8 := B8.out.size
    have a0_8 := Lib.hid ((h8.block _ a0_7_l.out).trans a0_7.out)
    have a0_8_l := Lib.hid (Nat.lt_of_lt_of_le a0_7_l.out z8)
    have u0_8 := Lib.hid (u0_7.out.below h8)
    have ub0_8 := Lib.hid ((h8.block _ ub0_7_l.out).trans ub0_7.out)
    have ub0_8_l := Lib.hid (Nat.lt_of_lt_of_le ub0_7_l.out z8)
    have x0_8 := Lib.hid (x0_7.out.below h8 x0_7.out.lt)
    have y0_8 := Lib.hid ((h8.block _ Y7.out).trans X7.out)
    have y0_8_l := Lib.hid (Nat.lt_of_lt_of_le Y7.out z8)
    obtain ⟨At0, nt0, kt0, rfl⟩ := ht0.form
    have Ft0 := Lib.hid ht0
    have Lt0 := Lib.hid Ft0.out.lt
    clear ht0
    generalize hrc1 : srM r0 = rc1
    have HRC1 := Lib.hid hrc1
    clear hrc1
    generalize hrc2 : rkC r0 = rc2
    have HRC2 := Lib.hid hrc2
    clear hrc2
    have h9 := (Below.refl w8.heap.size w8).alloc (Nat.le_refl _) (.cells #[.int .i16 (srN r0), (.slice At0 nt0 kt0)] 30)
    have X9 := Lib.hid (heap_alloc_new w8 (.cells #[.int .i16 (srN r0), (.slice At0 nt0 kt0)] 30))
    have Y9 := Lib.hid (show w8.heap.size < (World.alloc w8 (.cells #[.int .i16 (srN r0), (.slice At0 nt0 kt0)] 30)).heap.size by simp)
    have q_u_0 := (h9.cell (p := ⟨_, 0, none⟩) ub0_8_l.out).trans (cell_of_row w8 _ 0 _ _ _ ub0_8.out)
    have q_u_1 := (h9.cell (p := ⟨_, 1, none⟩) ub0_8_l.out).trans (cell_of_row w8 _ 1 _ _ _ ub0_8.out)
    have qp_u_0 := cell_of_row w8 _ 0 _ _ _ ub0_8.out
    have qp_u_1 := cell_of_row w8 _ 1 _ _ _ ub0_8.out
    have ql_u := ub0_8_l.out
    simp only [List.getElem?_toArray, List.getElem?_cons_zero, List.getElem?_cons_succ] at q_u_0 q_u_1 qp_u_0 qp_u_1
    go_wp2_with fail
    generalize World.alloc w8 _ = w9 at X9 h9 Y9 ⊢
    have z9 := h9.size
    have yy9 := Y9.out
    have B9 := Lib.hid (bnext B8.out h9)
    have zb9 := B9.out.size
    have a0_9 := Lib.hid ((h9.block _ a0_8_l.out).trans a0_8.out)
    have a0_9_l := Lib.hid (Nat.lt_of_lt_of_le a0_8_l.out z9)
    have u0_9 := Lib.hid (u0_8.out.below h9)
    have ub0_9 := Lib.hid ((h9.block _ ub0_8_l.out).trans ub0_8.out)
    have ub0_9_l := Lib.hid (Nat.lt_of_lt_of_le ub0_8_l.out z9)
    have x0_9 := Lib.hid (x0_8.out.below h9 x0_8.out.lt)
    have y0_9 := Lib.hid ((h9.block _ y0_8_l.out).trans y0_8.out)
    have y0_9_l := Lib.hid (Nat.lt_of_lt_of_le y0_8_l.out z9)
    have t0_9 := Lib.hid (Ft0.out.below h9)
    refine (eqRack_same ⟨srN r0, srL r0⟩ _ _ _ t0_9.out.slice u0_9.out.slice LM0.out).mono ?_
    rintro e w10 ⟨rfl, h10⟩
    have z10 := h10.size
    clear q_u_0 q_u_1 qp_u_0 qp_u_1 ql_u
    have B10 := Lib.hid (bnext B9.out h10)
    have zb10 := B10.out.size
    have a0_10 := Lib.hid ((h10.block _ a0_9_l.out).trans a0_9.out)
    have a0_10_l := Lib.hid (Nat.lt_of_lt_of_le a0_9_l.out z10)
    have u0_10 := Lib.hid (u0_9.out.below h10)
    have ub0_10 := Lib.hid ((h10.block _ ub0_9_l.out).trans ub0_9.out)
    have ub0_10_l := Lib.hid (Nat.lt_of_lt_of_le ub0_9_l.out z10)
    have x0_10 := Lib.hid (x0_9.out.below h10 x0_9.out.lt)
    have y0_10 := Lib.hid ((h10.block _ y0_9_l.out).trans y0_9.out)
    have y0_10_l := Lib.hid (Nat.lt_of_lt_of_le y0_9_l.out z10)
    have t0_10 := Lib.hid (t0_9.out.below h10)
    have tb0_10 := Lib.hid ((h10.block _ Y9.out).trans X9.out)
    have tb0_10_l := Lib.hid (Nat.lt_of_lt_of_le Y9.out z10)
    have b0_0 : Below w10.heap.size w10 w10.drew := (Below.refl _ _).drew
    have HK0 := Lib.hid (show ∀ W1, Below w10.heap.size w10 W1 → (fun W1 => Below w10.heap.size w10 W1 ∧ W1.cell? ⟨w6.heap.size, 0, none⟩ = some (.int .i16 r0.n) ∧ W1.cell? ⟨w6.heap.size, 1, none⟩ = some (.slice (some ⟨g1, 0, none⟩) r0.ps.length r0.ps.length) ∧ W1.cell? ⟨w.heap.size, 0, none⟩ = some (.int .i16 r0.n) ∧ W1.cell? ⟨w.heap.size, 1, none⟩ = some (.slice A0 r0.ps.length k0)) W1 from fun W1 hB => ⟨hB, (hB.cell (p := ⟨_, 0, none⟩) y0_10_l.out).trans (cell_of_row w10 _ 0 _ _ _ y0_10.out), (hB.cell (p := ⟨_, 1, none⟩) y0_10_l.out).trans (cell_of_row w10 _ 1 _ _ _ y0_10.out), (hB.cell (p := ⟨_, 0, none⟩) a0_10_l.out).trans (cell_of_row w10 _ 0 _ _ _ a0_10.out), (hB.cell (p := ⟨_, 1, none⟩) a0_10_l.out).trans (cell_of_row w10 _ 1 _ _ _ a0_10.out)⟩)
    have RR0 := Lib.hid (RowN.slice x0_10.out (c := r0.ps.length))
    go_wp2
    go_region_held3 (fun W1 => Below w10.heap.size w10 W1 ∧ W1.cell? ⟨w6.heap.size, 0, none⟩ = some (.int .i16 r0.n) ∧ W1.cell? ⟨w6.heap.size, 1, none⟩ = some (.slice (some ⟨g1, 0, none⟩) r0.ps.length r0.ps.length) ∧ W1.cell? ⟨w.heap.size, 0, none⟩ = some (.int .i16 r0.n) ∧ W1.cell? ⟨w.heap.size, 1, none⟩ = some (.slice A0 r0.ps.length k0)) (first | exact HK0.out _ b0_0 | (refine HK0.out _ (bnext ?_ hq); exact And.left (by assumption))) (first
      | (go_at_call 17; refine (toRack_any r0 _ _ (SL0.out.below (bnext B10.out (And.left (by assumption)))) hn0).mono ?_; rintro e w' ⟨gz, rfl, hg, hr, hq⟩; have HR := Lib.hid (RowN.slice (c := r0.ps.length) hr); clear hr hg)
      | (go_at_call 19; refine (eqRack_same r0 _ _ _ (RR0.out.below (And.left (by assumption))) HR.out ML0.out).mono ?_; rintro e w11 ⟨rfl, hq⟩))
    all_goals
      have h11 : Below w10.heap.size w10 w11 := And.left (by assumption)
      have z11 := h11.size
      clear HK0 b0_0 RR0 HR
      have B11 := Lib.hid (bnext B10.out h11)
      have zb11 := B11.out.size
      have a0_11 := Lib.hid ((h11.block _ a0_10_l.out).trans a0_10.out)
      have a0_11_l := Lib.hid (Nat.lt_of_lt_of_le a0_10_l.out z11)
      have u0_11 := Lib.hid (u0_10.out.below h11)
      have ub0_11 := Lib.hid ((h11.block _ ub0_10_l.out).trans ub0_10.out)
      have ub0_11_l := Lib.hid (Nat.lt_of_lt_of_le ub0_10_l.out z11)
      have x0_11 := Lib.hid (x0_10.out.below h11 x0_10.out.lt)
      have y0_11 := Lib.hid ((h11.block _ y0_10_l.out).trans y0_10.out)
      have y0_11_l := Lib.hid (Nat.lt_of_lt_of_le y0_10_l.out z11)
      have t0_11 := Lib.hid (t0_10.out.below h11)
      have tb0_11 := Lib.hid ((h11.block _ tb0_10_l.out).trans tb0_10.out)
      have tb0_11_l := Lib.hid (Nat.lt_of_lt_of_le tb0_10_l.out z11)
      have q_y0_0 := cell_of_row w11 _ 0 _ _ _ y0_11.out
      have q_y0_1 := cell_of_row w11 _ 1 _ _ _ y0_11.out
      simp only [List.getElem?_toArray, List.getElem?_cons_zero, List.getElem?_cons_succ] at q_y0_0 q_y0_1
      go_wp2_with fail
      refine (markRackRow_any r0.n g1 r0.ps.length 1 _ (RowX.of x0_11.out) hn0 (by omega) (by omega)).mono ?_
      rintro e w12 ⟨rfl, -, h12⟩
      have z12 := h12.size
      clear q_y0_0 q_y0_1
      have B12 := Lib.hid (B11.out.grown h12 B11.out.size (fun k hk => by injection hk with hk; omega))
      have zb12 := B12.out.size
      have a0_12 := Lib.hid ((h12.block _ a0_11_l.out (fun e => by injection e with e; omega)).trans a0_11.out)
      have a0_12_l := Lib.hid (Nat.lt_of_lt_of_le a0_11_l.out z12)
      have u0_12 := Lib.hid (u0_11.out.other h12 (fun k hk e => by have := Lu0.out k hk; first | (injection e with e; omega) | omega))
      have ub0_12 := Lib.hid ((h12.block _ ub0_11_l.out (fun e => by injection e with e; omega)).trans ub0_11.out)
      have ub0_12_l := Lib.hid (Nat.lt_of_lt_of_le ub0_11_l.out z12)
      have y0_12 := Lib.hid ((h12.block _ y0_11_l.out (fun e => by injection e with e; omega)).trans y0_11.out)
      have y0_12_l := Lib.hid (Nat.lt_of_lt_of_le y0_11_l.out z12)
      have t0_12 := Lib.hid (t0_11.out.other h12 (fun k hk e => by have := Lt0.out k hk; first | (injection e with e; omega) | omega))
      have tb0_12 := Lib.hid ((h12.block _ tb0_11_l.out (fun e => by injection e with e; omega)).trans tb0_11.out)
      have tb0_12_l := Lib.hid (Nat.lt_of_lt_of_le tb0_11_l.out z12)
      generalize hkk12 : 1 + 9 * (r0.ps.length : Int) = kk12
      have kl12 : 0 ≤ kk12 := by omega
      have ku12 : kk12 ≤ 9437185 := by omega
      clear hkk12
      have kd : decide (kk12 < 0) = false := by simp; omega
      have kd2 : ¬ (kk12 < 0) := by omega
      have q_tb0_0 := cell_of_row w12 _ 0 _ _ _ tb0_12.out
      have q_tb0_1 := cell_of_row w12 _ 1 _ _ _ tb0_12.out
      simp only [List.getElem?_toArray, List.getElem?_cons_zero, List.getElem?_cons_succ] at q_tb0_0 q_tb0_1
      have q_ub0_0 := cell_of_row w12 _ 0 _ _ _ ub0_12.out
      have q_ub0_1 := cell_of_row w12 _ 1 _ _ _ ub0_12.out
      simp only [List.getElem?_toArray, List.getElem?_cons_zero, List.getElem?_cons_succ] at q_ub0_0 q_ub0_1
      go_wp2_with fail
      refine (eqRack_same ⟨srN r0, srL r0⟩ _ _ _ t0_12.out.slice u0_12.out.slice LM0.out).mono ?_
      rintro e w13 ⟨rfl, h13⟩
      have z13 := h13.size
      clear q_tb0_0 q_tb0_1 q_ub0_0 q_ub0_1
      have B13 := Lib.hid (bnext B12.out h13)
      have zb13 := B13.out.size
      have a0_13 := Lib.hid ((h13.block _ a0_12_l.out).trans a0_12.out)
      have a0_13_l := Lib.hid (Nat.lt_of_lt_of_le a0_12_l.out z13)
      have u0_13 := Lib.hid (u0_12.out.below h13)
      have ub0_13 := Lib.hid ((h13.block _ ub0_12_l.out).trans ub0_12.out)
      have ub0_13_l := Lib.hid (Nat.lt_of_lt_of_le ub0_12_l.out z13)
      have y0_13 := Lib.hid ((h13.block _ y0_12_l.out).trans y0_12.out)
      have y0_13_l := Lib.hid (Nat.lt_of_lt_of_le y0_12_l.out z13)
      have t0_13 := Lib.hid (t0_12.out.below h13)
      have tb0_13 := Lib.hid ((h13.block _ tb0_12_l.out).trans tb0_12.out)
      have tb0_13_l := Lib.hid (Nat.lt_of_lt_of_le tb0_12_l.out z13)
      have q_tb0_0 := cell_of_row w13 _ 0 _ _ _ tb0_13.out
      have q_tb0_1 := cell_of_row w13 _ 1 _ _ _ tb0_13.out
      simp only [List.getElem?_toArray, List.getElem?_cons_zero, List.getElem?_cons_succ] at q_tb0_0 q_tb0_1
      go_wp2_with fail
      refine (markRack_any (srN r0) (.slice At0 nt0 kt0) (srL r0) _ 1 _ t0_13.out LR0.out (by omega) (by omega)).mono ?_
      rintro e w14 ⟨rfl, hm0, h14⟩
      have z14 := h14.size
      have M0 := Lib.hid hm0
      clear hm0
      clear q_tb0_0 q_tb0_1
      have B14 := Lib.hid (B13.out.grown h14 B13.out.size (fun k hk => by have := Lt0.out k hk; omega))
      have zb14 := B14.out.size
      have a0_14 := Lib.hid ((h14.block _ a0_13_l.out (fun e => by have := Lt0.out _ e.symm; omega)).trans a0_13.out)
      have a0_14_l := Lib.hid (Nat.lt_of_lt_of_le a0_13_l.out z14)
      have u0_14 := Lib.hid (u0_13.out.other h14 (fun k hk e => by have := Lu0.out k hk; have := Lt0.out k e.symm; omega))
      have ub0_14 := Lib.hid ((h14.block _ ub0_13_l.out (fun e => by have := Lt0.out _ e.symm; omega)).trans ub0_13.out)
      have ub0_14_l := Lib.hid (Nat.lt_of_lt_of_le ub0_13_l.out z14)
      have y0_14 := Lib.hid ((h14.block _ y0_13_l.out (fun e => by have := Lt0.out _ e.symm; omega)).trans y0_13.out)
      have y0_14_l := Lib.hid (Nat.lt_of_lt_of_le y0_13_l.out z14)
      have tb0_14 := Lib.hid ((h14.block _ tb0_13_l.out (fun e => by have := Lt0.out _ e.symm; omega)).trans tb0_13.out)
      have tb0_14_l := Lib.hid (Nat.lt_of_lt_of_le tb0_13_l.out z14)
      have q_tb0_0 := cell_of_row w14 _ 0 _ _ _ tb0_14.out
      have q_tb0_1 := cell_of_row w14 _ 1 _ _ _ tb0_14.out
      simp only [List.getElem?_toArray, List.getElem?_cons_zero, List.getElem?_cons_succ] at q_tb0_0 q_tb0_1
      go_wp2_with fail
      refine (heldRack_any (srN r0) (.slice At0 nt0 kt0) (srL r0).length 1 _ LR0.out (by omega) (by omega) M0.out.slice).mono ?_
      rintro e w15 ⟨rfl, h15⟩
      have z15 := h15.size
      clear q_tb0_0 q_tb0_1
      have B15 := Lib.hid (bnext B14.out h15)
      have zb15 := B15.out.size
      have a0_15 := Lib.hid ((h15.block _ a0_14_l.out).trans a0_14.out)
      have a0_15_l := Lib.hid (Nat.lt_of_lt_of_le a0_14_l.out z15)
      have u0_15 := Lib.hid (u0_14.out.below h15)
      have ub0_15 := Lib.hid ((h15.block _ ub0_14_l.out).trans ub0_14.out)
      have ub0_15_l := Lib.hid (Nat.lt_of_lt_of_le ub0_14_l.out z15)
      have y0_15 := Lib.hid ((h15.block _ y0_14_l.out).trans y0_14.out)
      have y0_15_l := Lib.hid (Nat.lt_of_lt_of_le y0_14_l.out z15)
      have tb0_15 := Lib.hid ((h15.block _ tb0_14_l.out).trans tb0_14.out)
      have tb0_15_l := Lib.hid (Nat.lt_of_lt_of_le tb0_14_l.out z15)
      have m0_15 := Lib.hid (M0.out.below h15)
      have q_a0_0 := cell_of_row w15 _ 0 _ _ _ a0_15.out
      have q_a0_1 := cell_of_row w15 _ 1 _ _ _ a0_15.out
      simp only [List.getElem?_toArray, List.getElem?_cons_zero, List.getElem?_cons_succ] at q_a0_0 q_a0_1
      go_wp2_with fail
      refine (toRack_any r0 _ _ (SL0.out.below B15.out) hn0).mono ?_
      rintro e w16 ⟨g2, rfl, lo2, hr2, h16⟩
      have z16 := h16.size
      clear q_a0_0 q_a0_1
      have B16 := Lib.hid (bnext B15.out h16)
      have zb16 := B16.out.size
      have a0_16 := Lib.hid ((h16.block _ a0_15_l.out).trans a0_15.out)
      have a0_16_l := Lib.hid (Nat.lt_of_lt_of_le a0_15_l.out z16)
      have u0_16 := Lib.hid (u0_15.out.below h16)
      have ub0_16 := Lib.hid ((h16.block _ ub0_15_l.out).trans ub0_15.out)
      have ub0_16_l := Lib.hid (Nat.lt_of_lt_of_le ub0_15_l.out z16)
      have y0_16 := Lib.hid ((h16.block _ y0_15_l.out).trans y0_15.out)
      have y0_16_l := Lib.hid (Nat.lt_of_lt_of_le y0_15_l.out z16)
      have tb0_16 := Lib.hid ((h16.block _ tb0_15_l.out).trans tb0_15.out)
      have tb0_16_l := Lib.hid (Nat.lt_of_lt_of_le tb0_15_l.out z16)
      have m0_16 := Lib.hid (m0_15.out.below h16)
      have P2 := Lib.hid hr2
      have hi2 := hr2.lt
      clear hr2
      go_wp2_with fail
      refine (spreadRack_any r0 _ WF0.out _ s i (HE.out.below B16.out) (RowN.slice P2.out) hn0).mono ?_
      rintro e w17 ⟨v0, rfl, hv0, h17⟩
      have z17 := h17.size
      have B17 := Lib.hid (bnext B16.out h17)
      have zb17 := B17.out.size
      have a0_17 := Lib.hid ((h17.block _ a0_16_l.out).trans a0_16.out)
      have a0_17_l := Lib.hid (Nat.lt_of_lt_of_le a0_16_l.out z17)
      have u0_17 := Lib.hid (u0_16.out.below h17)
      have ub0_17 := Lib.hid ((h17.block _ ub0_16_l.out).trans ub0_16.out)
      have ub0_17_l := Lib.hid (Nat.lt_of_lt_of_le ub0_16_l.out z17)
      have y0_17 := Lib.hid ((h17.block _ y0_16_l.out).trans y0_16.out)
      have y0_17_l := Lib.hid (Nat.lt_of_lt_of_le y0_16_l.out z17)
      have tb0_17 := Lib.hid ((h17.block _ tb0_16_l.out).trans tb0_16.out)
      have tb0_17_l := Lib.hid (Nat.lt_of_lt_of_le tb0_16_l.out z17)
      have m0_17 := Lib.hid (m0_16.out.below h17)
      have p0_17 := Lib.hid (P2.out.below h17 P2.out.lt)
      obtain ⟨Av0, nv0, kv0, rfl⟩ := hv0.form
      have Fv0 := Lib.hid hv0
      have Lv0 := Lib.hid Fv0.out.lt
      clear hv0
      rw [HRC1.out]
      rw [HRC2.out]
      have h18 := (Below.refl w17.heap.size w17).alloc (Nat.le_refl _) (.cells #[.int .i16 (srN r0), (.slice Av0 nv0 kv0)] 30)
      have X18 := Lib.hid (heap_alloc_new w17 (.cells #[.int .i16 (srN r0), (.slice Av0 nv0 kv0)] 30))
      have Y18 := Lib.hid (show w17.heap.size < (World.alloc w17 (.cells #[.int .i16 (srN r0), (.slice Av0 nv0 kv0)] 30)).heap.size by simp)
      have q_u_0 := (h18.cell (p := ⟨_, 0, none⟩) ub0_17_l.out).trans (cell_of_row w17 _ 0 _ _ _ ub0_17.out)
      have q_u_1 := (h18.cell (p := ⟨_, 1, none⟩) ub0_17_l.out).trans (cell_of_row w17 _ 1 _ _ _ ub0_17.out)
      have qp_u_0 := cell_of_row w17 _ 0 _ _ _ ub0_17.out
      have qp_u_1 := cell_of_row w17 _ 1 _ _ _ ub0_17.out
      have ql_u := ub0_17_l.out
      simp only [List.getElem?_toArray, List.getElem?_cons_zero, List.getElem?_cons_succ] at q_u_0 q_u_1 qp_u_0 qp_u_1
      go_wp2_with fail
      generalize World.alloc w17 _ = w18 at X18 h18 Y18 ⊢
      have z18 := h18.size
      have yy18 := Y18.out
      have B18 := Lib.hid (bnext B17.out h18)
      have zb18 := B18.out.size
      have a0_18 := Lib.hid ((h18.block _ a0_17_l.out).trans a0_17.out)
      have a0_18_l := Lib.hid (Nat.lt_of_lt_of_le a0_17_l.out z18)
      have u0_18 := Lib.hid (u0_17.out.below h18)
      have ub0_18 := Lib.hid ((h18.block _ ub0_17_l.out).trans ub0_17.out)
      have ub0_18_l := Lib.hid (Nat.lt_of_lt_of_le ub0_17_l.out z18)
      have y0_18 := Lib.hid ((h18.block _ y0_17_l.out).trans y0_17.out)
      have y0_18_l := Lib.hid (Nat.lt_of_lt_of_le y0_17_l.out z18)
      have tb0_18 := Lib.hid ((h18.block _ tb0_17_l.out).trans tb0_17.out)
      have tb0_18_l := Lib.hid (Nat.lt_of_lt_of_le tb0_17_l.out z18)
      have m0_18 := Lib.hid (m0_17.out.below h18)
      have v0_18 := Lib.hid (Fv0.out.below h18)
      refine (eqRack_same ⟨srN r0, srL r0⟩ _ _ _ v0_18.out.slice u0_18.out.slice LM0.out).mono ?_
      rintro e w19 ⟨rfl, h19⟩
      have z19 := h19.size
      clear q_u_0 q_u_1 qp_u_0 qp_u_1 ql_u
      have B19 := Lib.hid (bnext B18.out h19)
      have zb19 := B19.out.size
      have a0_19 := Lib.hid ((h19.block _ a0_18_l.out).trans a0_18.out)
      have a0_19_l := Lib.hid (Nat.lt_of_lt_of_le a0_18_l.out z19)
      have u0_19 := Lib.hid (u0_18.out.below h19)
      have ub0_19 := Lib.hid ((h19.block _ ub0_18_l.out).trans ub0_18.out)
      have ub0_19_l := Lib.hid (Nat.lt_of_lt_of_le ub0_18_l.out z19)
      have y0_19 := Lib.hid ((h19.block _ y0_18_l.out).trans y0_18.out)
      have y0_19_l := Lib.hid (Nat.lt_of_lt_of_le y0_18_l.out z19)
      have tb0_19 := Lib.hid ((h19.block _ tb0_18_l.out).trans tb0_18.out)
      have tb0_19_l := Lib.hid (Nat.lt_of_lt_of_le tb0_18_l.out z19)
      have m0_19 := Lib.hid (m0_18.out.below h19)
      have v0_19 := Lib.hid (v0_18.out.below h19)
      have vb0_19 := Lib.hid ((h19.block _ Y18.out).trans X18.out)
      have vb0_19_l := Lib.hid (Nat.lt_of_lt_of_le Y18.out z19)
      have q_tb0_0 := cell_of_row w19 _ 0 _ _ _ tb0_19.out
      have q_tb0_1 := cell_of_row w19 _ 1 _ _ _ tb0_19.out
      simp only [List.getElem?_toArray, List.getElem?_cons_zero, List.getElem?_cons_succ] at q_tb0_0 q_tb0_1
      go_wp2_with fail
      refine (heldRack_any (srN r0) (.slice At0 nt0 kt0) (srL r0).length 1 _ LR0.out (by omega) (by omega) m0_19.out.slice).mono ?_
      rintro e w20 ⟨rfl, h20⟩
      have z20 := h20.size
      clear q_tb0_0 q_tb0_1
      have B20 := Lib.hid (bnext B19.out h20)
      have zb20 := B20.out.size
      have a0_20 := Lib.hid ((h20.block _ a0_19_l.out).trans a0_19.out)
      have a0_20_l := Lib.hid (Nat.lt_of_lt_of_le a0_19_l.out z20)
      have u0_20 := Lib.hid (u0_19.out.below h20)
      have ub0_20 := Lib.hid ((h20.block _ ub0_19_l.out).trans ub0_19.out)
      have ub0_20_l := Lib.hid (Nat.lt_of_lt_of_le ub0_19_l.out z20)
      have y0_20 := Lib.hid ((h20.block _ y0_19_l.out).trans y0_19.out)
      have y0_20_l := Lib.hid (Nat.lt_of_lt_of_le y0_19_l.out z20)
      have tb0_20 := Lib.hid ((h20.block _ tb0_19_l.out).trans tb0_19.out)
      have tb0_20_l := Lib.hid (Nat.lt_of_lt_of_le tb0_19_l.out z20)
      have m0_20 := Lib.hid (m0_19.out.below h20)
      have v0_20 := Lib.hid (v0_19.out.below h20)
      have vb0_20 := Lib.hid ((h20.block _ vb0_19_l.out).trans vb0_19.out)
      have vb0_20_l := Lib.hid (Nat.lt_of_lt_of_le vb0_19_l.out z20)
      go_wp2
      go_ret
      exact ⟨rfl, B20.out⟩
  · have e0 : (1048576 - (r0.ps.length : Int) < 0) := by omega
    go_enter Tryd.func13, Tryd.ntmps13
    have h1 := (Below.refl w.heap.size w).alloc (Nat.le_refl _) (.cells #[.int .i16 r0.n, .slice A0 r0.ps.length k0] 25)
    have X1 := Lib.hid (heap_alloc_new w (.cells #[.int .i16 r0.n, .slice A0 r0.ps.length k0] 25))
    have Y1 := Lib.hid (show w.heap.size < (World.alloc w (.cells #[.int .i16 r0.n, .slice A0 r0.ps.length k0] 25)).heap.size by simp)
    go_wp2_with fail
    generalize World.alloc w _ = w1 at X1 h1 Y1 ⊢
    have z1 := h1.size
    have yy1 := Y1.out
    have B1 := Lib.hid h1
    have zb1 := B1.out.size
    refine (szRack_left r0 _ _ _ _ mx0 (by omega) (by omega)).mono ?_
    rintro e w2 ⟨rfl, h2⟩
    have z2 := h2.size
    have B2 := Lib.hid (bnext B1.out h2)
    have zb2 := B2.out.size
    have a0_2 := Lib.hid ((h2.block _ Y1.out).trans X1.out)
    have a0_2_l := Lib.hid (Nat.lt_of_lt_of_le Y1.out z2)
    rw [if_neg (by omega)]
    go_wp2
    go_ret
    exact ⟨rfl, B2.out⟩

end Go.Proofs.YtlphpajpjpohmaaDoor
