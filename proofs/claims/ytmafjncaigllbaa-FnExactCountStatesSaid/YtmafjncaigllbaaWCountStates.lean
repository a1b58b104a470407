/- The law of CountStates, walked. No condition. -/
import Derived.Test.YtmafjncaigllbaaDkN
import Derived.Deep.RegionHeld3
namespace Go.Proofs.Ytmafjncaigllbaa
set_option linter.unusedSimpArgs false
set_option linter.unusedVariables false
set_option maxRecDepth 100000
open Go.RowKit

set_option maxHeartbeats 16000000 in
theorem walkCountStates (d0 : Dk) (hv0 : Value) (wf0 : d0.Wf ∧ ∀ c ∈ d0.cs, c.q.length ≤ maxLen) (w : World) (sl0 : CpsOf w hv0 d0.cs) (ml0 : d0.cs.length ≤ maxLen) :
    Calls Try.prog 14 #[.agg #[.int .i16 d0.day, hv0]] w fun e w' => e = .returned (.bool true) ∧ Below w.heap.size w w' := by
  have mx0 : d0.cs.length ≤ 9223372036854775807 := by unfold maxLen at ml0; omega
  have SL0 := Lib.hid sl0
  have WF0 := Lib.hid wf0
  have ML0 := Lib.hid ml0
  obtain ⟨A0, k0, rfl, -⟩ := sl0
  clear wf0 ml0
  by_cases hn0 : (csz d0.cs : Int) ≤ 1048576
  · have e0 : ¬ (1048576 - (csz d0.cs : Int) < 0) := by omega
    go_enter Try.func14, Try.ntmps14
    have h1 := (Below.refl w.heap.size w).alloc (Nat.le_refl _) (.cells #[.int .i16 d0.day, .slice A0 d0.cs.length k0] 25)
    have X1 := Lib.hid (heap_alloc_new w (.cells #[.int .i16 d0.day, .slice A0 d0.cs.length k0] 25))
    have Y1 := Lib.hid (show w.heap.size < (World.alloc w (.cells #[.int .i16 d0.day, .slice A0 d0.cs.length k0] 25)).heap.size by simp)
    go_wp2_with fail
    generalize World.alloc w _ = w1 at X1 h1 Y1 ⊢
    have z1 := h1.size
    have yy1 := Y1.out
    have B1 := Lib.hid h1
    have zb1 := B1.out.size
    refine (szDesk_left d0 _ _ _ (SL0.out.below B1.out) WF0.out.2 ML0.out (by omega) (by omega)).mono ?_
    rintro e w2 ⟨rfl, h2⟩
    have z2 := h2.size
    have B2 := Lib.hid (bnext B1.out h2)
    have zb2 := B2.out.size
    have a0_2 := Lib.hid ((h2.block _ Y1.out).trans X1.out)
    have a0_2_l := Lib.hid (Nat.lt_of_lt_of_le Y1.out z2)
    rw [if_pos (by omega)]
    replace hn0 : csz d0.cs ≤ 1048576 := by omega
    have q_a0_0 := cell_of_row w2 _ 0 _ _ _ a0_2.out
    have q_a0_1 := cell_of_row w2 _ 1 _ _ _ a0_2.out
    simp only [List.getElem?_toArray, List.getElem?_cons_zero, List.getElem?_cons_succ] at q_a0_0 q_a0_1
    go_wp2_with fail
    refine (toDesk_any d0 _ _ (SL0.out.below B2.out) hn0).mono ?_
    rintro e w3 ⟨g0, rfl, lo0, hr0, h3⟩
    have z3 := h3.size
    clear q_a0_0 q_a0_1
    have B3 := Lib.hid (bnext B2.out h3)
    have zb3 := B3.out.size
    have a0_3 := Lib.hid ((h3.block _ a0_2_l.out).trans a0_2.out)
    have a0_3_l := Lib.hid (Nat.lt_of_lt_of_le a0_2_l.out z3)
    have P0 := Lib.hid hr0
    have hi0 := hr0.lt
    clear hr0
    go_wp2_with fail
    refine (specCountStates_any d0 _ WF0.out _ (CRowK.cps P0.out _) ML0.out).mono ?_
    rintro e w4 ⟨rfl, h4⟩
    have z4 := h4.size
    have B4 := Lib.hid (bnext B3.out h4)
    have zb4 := B4.out.size
    have a0_4 := Lib.hid ((h4.block _ a0_3_l.out).trans a0_3.out)
    have a0_4_l := Lib.hid (Nat.lt_of_lt_of_le a0_3_l.out z4)
    have s0_4 := Lib.hid (P0.out.below h4)
    have h5 := (Below.refl w4.heap.size w4).alloc (Nat.le_refl _) (.cells #[.int .i64 (ct3 d0 0), .int .i64 (ct3 d0 1), .int .i64 (ct3 d0 2)] 52)
    have X5 := Lib.hid (heap_alloc_new w4 (.cells #[.int .i64 (ct3 d0 0), .int .i64 (ct3 d0 1), .int .i64 (ct3 d0 2)] 52))
    have Y5 := Lib.hid (show w4.heap.size < (World.alloc w4 (.cells #[.int .i64 (ct3 d0 0), .int .i64 (ct3 d0 1), .int .i64 (ct3 d0 2)] 52)).heap.size by simp)
    have q_a0_0 := (h5.cell (p := ⟨_, 0, none⟩) a0_4_l.out).trans (cell_of_row w4 _ 0 _ _ _ a0_4.out)
    have qp_a0_0 := cell_of_row w4 _ 0 _ _ _ a0_4.out
    have q_a0_1 := (h5.cell (p := ⟨_, 1, none⟩) a0_4_l.out).trans (cell_of_row w4 _ 1 _ _ _ a0_4.out)
    have qp_a0_1 := cell_of_row w4 _ 1 _ _ _ a0_4.out
    simp only [List.getElem?_toArray, List.getElem?_cons_zero, List.getElem?_cons_succ] at q_a0_0 q_a0_1 qp_a0_0 qp_a0_1
    have ql_a0 := a0_4_l.out
    go_wp2_with fail
    generalize World.alloc w4 _ = w5 at X5 h5 Y5 ⊢
    have z5 := h5.size
    have yy5 := Y5.out
    have B5 := Lib.hid (bnext B4.out h5)
    have zb5 := B5.out.size
    have a0_5 := Lib.hid ((h5.block _ a0_4_l.out).trans a0_4.out)
    have a0_5_l := Lib.hid (Nat.lt_of_lt_of_le a0_4_l.out z5)
    refine (toDesk_any d0 _ _ (SL0.out.below B5.out) hn0).mono ?_
    rintro e w6 ⟨g1, rfl, lo1, hr1, h6⟩
    have z6 := h6.size
    clear q_a0_0 q_a0_1 qp_a0_0 qp_a0_1
    have B6 := Lib.hid (bnext B5.out h6)
    have zb6 := B6.out.size
    have a0_6 := Lib.hid ((h6.block _ a0_5_l.out).trans a0_5.out)
    have a0_6_l := Lib.hid (Nat.lt_of_lt_of_le a0_5_l.out z6)
    have ub0_6 := Lib.hid ((h6.block _ Y5.out).trans X5.out)
    have ub0_6_l := Lib.hid (Nat.lt_of_lt_of_le Y5.out z6)
    have P1 := Lib.hid hr1
    have hi1 := hr1.lt
    clear hr1
    have h7 := (Below.refl w6.heap.size w6).alloc (Nat.le_refl _) (.cells #[.int .i16 d0.day, .slice (some ⟨g1, 0, none⟩) d0.cs.length d0.cs.length] 30)
    have X7 := Lib.hid (heap_alloc_new w6 (.cells #[.int .i16 d0.day, .slice (some ⟨g1, 0, none⟩) d0.cs.length d0.cs.length] 30))
    have Y7 := Lib.hid (show w6.heap.size < (World.alloc w6 (.cells #[.int .i16 d0.day, .slice (some ⟨g1, 0, none⟩) d0.cs.length d0.cs.length] 30)).heap.size by simp)
    go_wp2_with fail
    generalize World.alloc w6 _ = w7 at X7 h7 Y7 ⊢
    have z7 := h7.size
    have yy7 := Y7.out
    have B7 := Lib.hid (bnext B6.out h7)
    have zb7 := B7.out.size
    have a0_7 := Lib.hid ((h7.block _ a0_6_l.out).trans a0_6.out)
    have a0_7_l := Lib.hid (Nat.lt_of_lt_of_le a0_6_l.out z7)
    have ub0_7 := Lib.hid ((h7.block _ ub0_6_l.out).trans ub0_6.out)
    have ub0_7_l := Lib.hid (Nat.lt_of_lt_of_le ub0_6_l.out z7)
    have x0_7 := Lib.hid (P1.out.below h7)
    refine (implCountStates_any d0 WF0.out _ _ x0_7.out ML0.out).mono ?_
    rintro e w8 ⟨rfl, h8⟩
    have z8 := h8.size
    have B8 := Lib.hid (bnext B7.out h8)
    have zb8 := B8.out.size
    have a0_8 := Lib.hid ((h8.block _ a0_7_l.out).trans a0_7.out)
    have a0_8_l := Lib.hid (Nat.lt_of_lt_of_le a0_7_l.out z8)
    have ub0_8 := Lib.hid ((h8.block _ ub0_7_l.out).trans ub0_7.out)
    have ub0_8_l := Lib.hid (Nat.lt_of_lt_of_le ub0_7_l.out z8)
    have x0_8 := Lib.hid (x0_7.out.below h8)
    have y0_8 := Lib.hid ((h8.block _ Y7.out).trans X7.out)
    have y0_8_l := Lib.hid (Nat.lt_of_lt_of_le Y7.out z8)
    generalize hrc1 : cnC d0 0 = rc1
    have HRC1 := Lib.hid hrc1
    clear hrc1
    have h9 := (Below.refl w8.heap.size w8).alloc (Nat.le_refl _) (.cells #[.int .i64 (ct3 d0 0), .int .i64 (ct3 d0 1), .int .i64 (ct3 d0 2)] 52)
    have X9 := Lib.hid (heap_alloc_new w8 (.cells #[.int .i64 (ct3 d0 0), .int .i64 (ct3 d0 1), .int .i64 (ct3 d0 2)] 52))
    have Y9 := Lib.hid (show w8.heap.size < (World.alloc w8 (.cells #[.int .i64 (ct3 d0 0), .int .i64 (ct3 d0 1), .int .i64 (ct3 d0 2)] 52)).heap.size by simp)
    have q_u_0 := (h9.cell (p := ⟨_, 0, none⟩) ub0_8_l.out).trans (cell_of_row w8 _ 0 _ _ _ ub0_8.out)
    have q_u_1 := (h9.cell (p := ⟨_, 1, none⟩) ub0_8_l.out).trans (cell_of_row w8 _ 1 _ _ _ ub0_8.out)
    have q_u_2 := (h9.cell (p := ⟨_, 2, none⟩) ub0_8_l.out).trans (cell_of_row w8 _ 2 _ _ _ ub0_8.out)
    have qp_u_0 := cell_of_row w8 _ 0 _ _ _ ub0_8.out
    have qp_u_1 := cell_of_row w8 _ 1 _ _ _ ub0_8.out
    have qp_u_2 := cell_of_row w8 _ 2 _ _ _ ub0_8.out
    have ql_u := ub0_8_l.out
    simp only [List.getElem?_toArray, List.getElem?_cons_zero, List.getElem?_cons_succ] at q_u_0 q_u_1 q_u_2 qp_u_0 qp_u_1 qp_u_2
    go_wp2_with fail
    generalize World.alloc w8 _ = w9 at X9 h9 Y9 ⊢
    have z9 := h9.size
    have yy9 := Y9.out
    have B9 := Lib.hid (bnext B8.out h9)
    have zb9 := B9.out.size
    have a0_9 := Lib.hid ((h9.block _ a0_8_l.out).trans a0_8.out)
    have a0_9_l := Lib.hid (Nat.lt_of_lt_of_le a0_8_l.out z9)
    have ub0_9 := Lib.hid ((h9.block _ ub0_8_l.out).trans ub0_8.out)
    have ub0_9_l := Lib.hid (Nat.lt_of_lt_of_le ub0_8_l.out z9)
    have x0_9 := Lib.hid (x0_8.out.below h9)
    have y0_9 := Lib.hid ((h9.block _ y0_8_l.out).trans y0_8.out)
    have y0_9_l := Lib.hid (Nat.lt_of_lt_of_le y0_8_l.out z9)
    refine (eqArr3d_same _ _ _ _).mono ?_
    rintro e w10 ⟨rfl, h10⟩
    have z10 := h10.size
    clear q_u_0 q_u_1 q_u_2 qp_u_0 qp_u_1 qp_u_2 ql_u
    have B10 := Lib.hid (bnext B9.out h10)
    have zb10 := B10.out.size
    have a0_10 := Lib.hid ((h10.block _ a0_9_l.out).trans a0_9.out)
    have a0_10_l := Lib.hid (Nat.lt_of_lt_of_le a0_9_l.out z10)
    have ub0_10 := Lib.hid ((h10.block _ ub0_9_l.out).trans ub0_9.out)
    have ub0_10_l := Lib.hid (Nat.lt_of_lt_of_le ub0_9_l.out z10)
    have x0_10 := Lib.hid (x0_9.out.below h10)
    have y0_10 := Lib.hid ((h10.block _ y0_9_l.out).trans y0_9.out)
    have y0_10_l := Lib.hid (Nat.lt_of_lt_of_le y0_9_l.out z10)
    have tb0_10 := Lib.hid ((h10.block _ Y9.out).trans X9.out)
    have tb0_10_l := Lib.hid (Nat.lt_of_lt_of_le Y9.out z10)
    have b0_0 : Below w10.heap.size w10 w10.drew := (Below.refl _ _).drew
    have HK0 := Lib.hid (show ∀ W1, Below w10.heap.size w10 W1 → (fun W1 => Below w10.heap.size w10 W1 ∧ W1.cell? ⟨w6.heap.size, 0, none⟩ = some (.int .i16 d0.day) ∧ W1.cell? ⟨w6.heap.size, 1, none⟩ = some (.slice (some ⟨g1, 0, none⟩) d0.cs.length d0.cs.length) ∧ W1.cell? ⟨w.heap.size, 0, none⟩ = some (.int .i16 d0.day) ∧ W1.cell? ⟨w.heap.size, 1, none⟩ = some (.slice A0 d0.cs.length k0)) W1 from fun W1 hB => ⟨hB, (hB.cell (p := ⟨_, 0, none⟩) y0_10_l.out).trans (cell_of_row w10 _ 0 _ _ _ y0_10.out), (hB.cell (p := ⟨_, 1, none⟩) y0_10_l.out).trans (cell_of_row w10 _ 1 _ _ _ y0_10.out), (hB.cell (p := ⟨_, 0, none⟩) a0_10_l.out).trans (cell_of_row w10 _ 0 _ _ _ a0_10.out), (hB.cell (p := ⟨_, 1, none⟩) a0_10_l.out).trans (cell_of_row w10 _ 1 _ _ _ a0_10.out)⟩)
    have RR0 := Lib.hid (CRowK.cps x0_10.out d0.cs.length)
    go_wp2
    go_region_held3 (fun W1 => Below w10.heap.size w10 W1 ∧ W1.cell? ⟨w6.heap.size, 0, none⟩ = some (.int .i16 d0.day) ∧ W1.cell? ⟨w6.heap.size, 1, none⟩ = some (.slice (some ⟨g1, 0, none⟩) d0.cs.length d0.cs.length) ∧ W1.cell? ⟨w.heap.size, 0, none⟩ = some (.int .i16 d0.day) ∧ W1.cell? ⟨w.heap.size, 1, none⟩ = some (.slice A0 d0.cs.length k0)) (first | exact HK0.out _ b0_0 | (refine HK0.out _ (bnext ?_ hq); exact And.left (by assumption))) (first
      | (go_at_call 17; refine (toDesk_any d0 _ _ (SL0.out.below (bnext B10.out (And.left (by assumption)))) hn0).mono ?_; rintro e w' ⟨gz, rfl, hg, hr, hq⟩; have HR := Lib.hid (CRowK.cps hr d0.cs.length); clear hr hg)
      | (go_at_call 19; refine (eqDesk_same d0 _ _ _ (RR0.out.below (And.left (by assumption))) HR.out WF0.out.2 ML0.out).mono ?_; rintro e w11 ⟨rfl, hq⟩))
    all_goals
      have h11 : Below w10.heap.size w10 w11 := And.left (by assumption)
      have z11 := h11.size
      clear HK0 b0_0 RR0 HR
      have B11 := Lib.hid (bnext B10.out h11)
      have zb11 := B11.out.size
      have a0_11 := Lib.hid ((h11.block _ a0_10_l.out).trans a0_10.out)
      have a0_11_l := Lib.hid (Nat.lt_of_lt_of_le a0_10_l.out z11)
      have ub0_11 := Lib.hid ((h11.block _ ub0_10_l.out).trans ub0_10.out)
      have ub0_11_l := Lib.hid (Nat.lt_of_lt_of_le ub0_10_l.out z11)
      have x0_11 := Lib.hid (x0_10.out.below h11)
      have y0_11 := Lib.hid ((h11.block _ y0_10_l.out).trans y0_10.out)
      have y0_11_l := Lib.hid (Nat.lt_of_lt_of_le y0_10_l.out z11)
      have tb0_11 := Lib.hid ((h11.block _ tb0_10_l.out).trans tb0_10.out)
      have tb0_11_l := Lib.hid (Nat.lt_of_lt_of_le tb0_10_l.out z11)
      go_wp2
      go_ret
      exact ⟨rfl, B11.out⟩
  · have e0 : (1048576 - (csz d0.cs : Int) < 0) := by omega
    go_enter Try.func14, Try.ntmps14
    have h1 := (Below.refl w.heap.size w).alloc (Nat.le_refl _) (.cells #[.int .i16 d0.day, .slice A0 d0.cs.length k0] 25)
    have X1 := Lib.hid (heap_alloc_new w (.cells #[.int .i16 d0.day, .slice A0 d0.cs.length k0] 25))
    have Y1 := Lib.hid (show w.heap.size < (World.alloc w (.cells #[.int .i16 d0.day, .slice A0 d0.cs.length k0] 25)).heap.size by simp)
    go_wp2_with fail
    generalize World.alloc w _ = w1 at X1 h1 Y1 ⊢
    have z1 := h1.size
    have yy1 := Y1.out
    have B1 := Lib.hid h1
    have zb1 := B1.out.size
    refine (szDesk_left d0 _ _ _ (SL0.out.below B1.out) WF0.out.2 ML0.out (by omega) (by omega)).mono ?_
    rintro e w2 ⟨rfl, h2⟩
    have z2 := h2.size
    have B2 := Lib.hid (bnext B1.out h2)
    have zb2 := B2.out.size
    have a0_2 := Lib.hid ((h2.block _ Y1.out).trans X1.out)
    have a0_2_l := Lib.hid (Nat.lt_of_lt_of_le Y1.out z2)
    rw [if_neg (by omega)]
    go_wp2
    go_ret
    exact ⟨rfl, B2.out⟩

end Go.Proofs.Ytmafjncaigllbaa
