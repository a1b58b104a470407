/- The law of SameDesk, walked. No condition. -/
import Derived.Test.YtmafjncaigllbaaSameD3
import Derived.Deep.RegionHeld3
namespace Go.Proofs.Ytmafjncaigllbaa
set_option linter.unusedSimpArgs false
set_option linter.unusedVariables false
set_option maxRecDepth 100000
open Go.RowKit

set_option maxHeartbeats 16000000 in
theorem walkSameDesk (d0 : Dk) (hv0 : Value) (wf0 : d0.Wf ∧ ∀ c ∈ d0.cs, c.q.length ≤ maxLen) (d1 : Dk) (hv1 : Value) (wf1 : d1.Wf ∧ ∀ c ∈ d1.cs, c.q.length ≤ maxLen) (w : World) (sl0 : CpsOf w hv0 d0.cs) (ml0 : d0.cs.length ≤ maxLen) (sl1 : CpsOf w hv1 d1.cs) (ml1 : d1.cs.length ≤ maxLen) :
    Calls Try.prog 4 #[.agg #[.int .i16 d0.day, hv0], .agg #[.int .i16 d1.day, hv1]] w fun e w' => e = .returned (.bool true) ∧ Below w.heap.size w w' := by
  have mx0 : d0.cs.length ≤ 9223372036854775807 := by unfold maxLen at ml0; omega
  have SL0 := Lib.hid sl0
  have WF0 := Lib.hid wf0
  have ML0 := Lib.hid ml0
  obtain ⟨A0, k0, rfl, -⟩ := sl0
  have mx1 : d1.cs.length ≤ 9223372036854775807 := by unfold maxLen at ml1; omega
  have SL1 := Lib.hid sl1
  have WF1 := Lib.hid wf1
  have ML1 := Lib.hid ml1
  obtain ⟨A1, k1, rfl, -⟩ := sl1
  clear wf0 ml0 wf1 ml1
  by_cases hn0 : (csz d0.cs : Int) ≤ 1048576
  · have e0 : ¬ (1048576 - (csz d0.cs : Int) < 0) := by omega
    by_cases hn1 : (csz d1.cs : Int) ≤ 1048576 - (csz d0.cs : Int)
    · have e1 : ¬ (1048576 - (csz d0.cs : Int) - (csz d1.cs : Int) < 0) := by omega
      go_enter Try.func4, Try.ntmps4
      have X0 := Lib.hid (show (World.alloc (World.alloc w (.cells #[.int .i16 d0.day, .slice A0 d0.cs.length k0] 25)) (.cells #[.int .i16 d1.day, .slice A1 d1.cs.length k1] 25)).heap[w.heap.size]? = some (Obj.cells #[.int .i16 d0.day, .slice A0 d0.cs.length k0] 25 (0, 0)) from (Below.heap_alloc _ _ _ (by simp)).trans (heap_alloc_new w _))
      have X1 := Lib.hid (show (World.alloc (World.alloc w (.cells #[.int .i16 d0.day, .slice A0 d0.cs.length k0] 25)) (.cells #[.int .i16 d1.day, .slice A1 d1.cs.length k1] 25)).heap[w.heap.size + 1]? = some (Obj.cells #[.int .i16 d1.day, .slice A1 d1.cs.length k1] 25 (0, 0)) from by have := heap_alloc_new (World.alloc w (.cells #[.int .i16 d0.day, .slice A0 d0.cs.length k0] 25)) (.cells #[.int .i16 d1.day, .slice A1 d1.cs.length k1] 25); rwa [World.size_alloc] at this)
      have Y0 := Lib.hid (show w.heap.size < (World.alloc (World.alloc w (.cells #[.int .i16 d0.day, .slice A0 d0.cs.length k0] 25)) (.cells #[.int .i16 d1.day, .slice A1 d1.cs.length k1] 25)).heap.size by simp; omega)
      have Y1 := Lib.hid (show w.heap.size + 1 < (World.alloc (World.alloc w (.cells #[.int .i16 d0.day, .slice A0 d0.cs.length k0] 25)) (.cells #[.int .i16 d1.day, .slice A1 d1.cs.length k1] 25)).heap.size by simp)
      have h1 : Below w.heap.size w (World.alloc (World.alloc w (.cells #[.int .i16 d0.day, .slice A0 d0.cs.length k0] 25)) (.cells #[.int .i16 d1.day, .slice A1 d1.cs.length k1] 25)) := by go_grown
      go_wp2_with fail
      generalize World.alloc (World.alloc w _) _ = w1 at X0 X1 Y0 Y1 h1 ⊢
      have z1 := h1.size
      have B1 := Lib.hid h1
      have zb1 := B1.out.size
      refine (szDesk_left d0 _ _ _ (SL0.out.below B1.out) WF0.out.2 ML0.out (by omega) (by omega)).mono ?_
      rintro e w2 ⟨rfl, h2⟩
      have z2 := h2.size
      have B2 := Lib.hid (bnext B1.out h2)
      have zb2 := B2.out.size
      have a0_2 := Lib.hid ((h2.block _ Y0.out).trans X0.out)
      have a0_2_l := Lib.hid (Nat.lt_of_lt_of_le Y0.out z2)
      have a1_2 := Lib.hid ((h2.block _ Y1.out).trans X1.out)
      have a1_2_l := Lib.hid (Nat.lt_of_lt_of_le Y1.out z2)
      rw [if_pos (by omega)]
      have q_a1_0 := cell_of_row w2 _ 0 _ _ _ a1_2.out
      have q_a1_1 := cell_of_row w2 _ 1 _ _ _ a1_2.out
      simp only [List.getElem?_toArray, List.getElem?_cons_zero, List.getElem?_cons_succ] at q_a1_0 q_a1_1
      go_wp2_with fail
      refine (szDesk_left d1 _ _ _ (SL1.out.below B2.out) WF1.out.2 ML1.out (by omega) (by omega)).mono ?_
      rintro e w3 ⟨rfl, h3⟩
      have z3 := h3.size
      clear q_a1_0 q_a1_1
      have B3 := Lib.hid (bnext B2.out h3)
      have zb3 := B3.out.size
      have a0_3 := Lib.hid ((h3.block _ a0_2_l.out).trans a0_2.out)
      have a0_3_l := Lib.hid (Nat.lt_of_lt_of_le a0_2_l.out z3)
      have a1_3 := Lib.hid ((h3.block _ a1_2_l.out).trans a1_2.out)
      have a1_3_l := Lib.hid (Nat.lt_of_lt_of_le a1_2_l.out z3)
      rw [if_pos (by omega)]
      replace hn0 : csz d0.cs ≤ 1048576 := by omega
      replace hn1 : csz d1.cs ≤ 1048576 := by omega
      have b0_u : Below w3.heap.size w3 w3.drew := (Below.refl _ _).drew
      have HKu := Lib.hid (show ∀ W1, Below w3.heap.size w3 W1 → (fun W1 => Below w3.heap.size w3 W1 ∧ W1.cell? ⟨w.heap.size, 0, none⟩ = some (.int .i16 d0.day) ∧ W1.cell? ⟨w.heap.size, 1, none⟩ = some (.slice A0 d0.cs.length k0) ∧ W1.cell? ⟨(w.heap.size + 1), 0, none⟩ = some (.int .i16 d1.day) ∧ W1.cell? ⟨(w.heap.size + 1), 1, none⟩ = some (.slice A1 d1.cs.length k1)) W1 from fun W1 hB => ⟨hB, (hB.cell (p := ⟨_, 0, none⟩) a0_3_l.out).trans (cell_of_row w3 _ 0 _ _ _ a0_3.out), (hB.cell (p := ⟨_, 1, none⟩) a0_3_l.out).trans (cell_of_row w3 _ 1 _ _ _ a0_3.out), (hB.cell (p := ⟨_, 0, none⟩) a1_3_l.out).trans (cell_of_row w3 _ 0 _ _ _ a1_3.out), (hB.cell (p := ⟨_, 1, none⟩) a1_3_l.out).trans (cell_of_row w3 _ 1 _ _ _ a1_3.out)⟩)
      go_wp2
      go_region_held3 (fun W1 => Below w3.heap.size w3 W1 ∧ W1.cell? ⟨w.heap.size, 0, none⟩ = some (.int .i16 d0.day) ∧ W1.cell? ⟨w.heap.size, 1, none⟩ = some (.slice A0 d0.cs.length k0) ∧ W1.cell? ⟨(w.heap.size + 1), 0, none⟩ = some (.int .i16 d1.day) ∧ W1.cell? ⟨(w.heap.size + 1), 1, none⟩ = some (.slice A1 d1.cs.length k1)) (first | exact HKu.out _ b0_u | (refine HKu.out _ (bnext ?_ hq); exact And.left (by assumption))) (first
        | (go_at_call 17; with_reducible refine (toDesk_any d0 _ _ (SL0.out.below (bnext B3.out (And.left (by assumption)))) hn0).mono ?_; rintro e wp0 ⟨gp0, rfl, hg, hr, hq⟩; have HP0 := Lib.hid (fun W2 (hB : Below wp0.heap.size wp0 W2) => CpsOf.below (CRowK.cps hr d0.cs.length) hB); clear hr hg)
        | (go_at_call 17; with_reducible refine (toDesk_any d1 _ _ (SL1.out.below (bnext B3.out (And.left (by assumption)))) hn1).mono ?_; rintro e wp1 ⟨gp1, rfl, hg, hr, hq⟩; have HP1 := Lib.hid (fun W2 (hB : Below wp1.heap.size wp1 W2) => CpsOf.below (CRowK.cps hr d1.cs.length) hB); clear hr hg)
        | (go_at_call 20; refine (specSameDesk_any d0 d1 _ _ _ WF0.out.2 WF1.out.2 (by first | exact HP0.out _ (Below.refl _ _) | exact HP0.out _ hq) (by first | exact HP1.out _ (Below.refl _ _) | exact HP1.out _ hq) ML0.out ML1.out).mono ?_; rintro e w4 ⟨rfl, hq⟩))
      all_goals
        have h4 : Below w3.heap.size w3 w4 := And.left (by assumption)
        have z4 := h4.size
        clear HKu b0_u HP0 HP1
        have B4 := Lib.hid (bnext B3.out h4)
        have zb4 := B4.out.size
        have a0_4 := Lib.hid ((h4.block _ a0_3_l.out).trans a0_3.out)
        have a0_4_l := Lib.hid (Nat.lt_of_lt_of_le a0_3_l.out z4)
        have a1_4 := Lib.hid ((h4.block _ a1_3_l.out).trans a1_3.out)
        have a1_4_l := Lib.hid (Nat.lt_of_lt_of_le a1_3_l.out z4)
        have q_a0_0 := cell_of_row w4 _ 0 _ _ _ a0_4.out
        have q_a0_1 := cell_of_row w4 _ 1 _ _ _ a0_4.out
        simp only [List.getElem?_toArray, List.getElem?_cons_zero, List.getElem?_cons_succ] at q_a0_0 q_a0_1
        go_wp2_with fail
        refine (toDesk_any d0 _ _ (SL0.out.below B4.out) hn0).mono ?_
        rintro e w5 ⟨g0, rfl, lo0, hr0, h5⟩
        have z5 := h5.size
        clear q_a0_0 q_a0_1
        have B5 := Lib.hid (bnext B4.out h5)
        have zb5 := B5.out.size
        have a0_5 := Lib.hid ((h5.block _ a0_4_l.out).trans a0_4.out)
        have a0_5_l := Lib.hid (Nat.lt_of_lt_of_le a0_4_l.out z5)
        have a1_5 := Lib.hid ((h5.block _ a1_4_l.out).trans a1_4.out)
        have a1_5_l := Lib.hid (Nat.lt_of_lt_of_le a1_4_l.out z5)
        have P0 := Lib.hid hr0
        have hi0 := hr0.lt
        clear hr0
        have h6 := (Below.refl w5.heap.size w5).alloc (Nat.le_refl _) (.cells #[.int .i16 d0.day, .slice (some ⟨g0, 0, none⟩) d0.cs.length d0.cs.length] 30)
        have X6 := Lib.hid (heap_alloc_new w5 (.cells #[.int .i16 d0.day, .slice (some ⟨g0, 0, none⟩) d0.cs.length d0.cs.length] 30))
        have Y6 := Lib.hid (show w5.heap.size < (World.alloc w5 (.cells #[.int .i16 d0.day, .slice (some ⟨g0, 0, none⟩) d0.cs.length d0.cs.length] 30)).heap.size by simp)
        have q_a1_0 := (h6.cell (p := ⟨_, 0, none⟩) a1_5_l.out).trans (cell_of_row w5 _ 0 _ _ _ a1_5.out)
        have qp_a1_0 := cell_of_row w5 _ 0 _ _ _ a1_5.out
        have q_a1_1 := (h6.cell (p := ⟨_, 1, none⟩) a1_5_l.out).trans (cell_of_row w5 _ 1 _ _ _ a1_5.out)
        have qp_a1_1 := cell_of_row w5 _ 1 _ _ _ a1_5.out
        simp only [List.getElem?_toArray, List.getElem?_cons_zero, List.getElem?_cons_succ] at q_a1_0 q_a1_1 qp_a1_0 qp_a1_1
        have ql_a1 := a1_5_l.out
        go_wp2_with fail
        generalize World.alloc w5 _ = w6 at X6 h6 Y6 ⊢
        have z6 := h6.size
        have yy6 := Y6.out
        have B6 := Lib.hid (bnext B5.out h6)
        have zb6 := B6.out.size
        have a0_6 := Lib.hid ((h6.block _ a0_5_l.out).trans a0_5.out)
        have a0_6_l := Lib.hid (Nat.lt_of_lt_of_le a0_5_l.out z6)
        have a1_6 := Lib.hid ((h6.block _ a1_5_l.out).trans a1_5.out)
        have a1_6_l := Lib.hid (Nat.lt_of_lt_of_le a1_5_l.out z6)
        have x0_6 := Lib.hid (P0.out.below h6)
        refine (toDesk_any d1 _ _ (SL1.out.below B6.out) hn1).mono ?_
        rintro e w7 ⟨g1, rfl, lo1, hr1, h7⟩
        have z7 := h7.size
        clear q_a1_0 q_a1_1 qp_a1_0 qp_a1_1
        have B7 := Lib.hid (bnext B6.out h7)
        have zb7 := B7.out.size
        have a0_7 := Lib.hid ((h7.block _ a0_6_l.out).trans a0_6.out)
        have a0_7_l := Lib.hid (Nat.lt_of_lt_of_le a0_6_l.out z7)
        have a1_7 := Lib.hid ((h7.block _ a1_6_l.out).trans a1_6.out)
        have a1_7_l := Lib.hid (Nat.lt_of_lt_of_le a1_6_l.out z7)
        have x0_7 := Lib.hid (x0_6.out.below h7)
        have y0_7 := Lib.hid ((h7.block _ Y6.out).trans X6.out)
        have y0_7_l := Lib.hid (Nat.lt_of_lt_of_le Y6.out z7)
        have P1 := Lib.hid hr1
        have hi1 := hr1.lt
        clear hr1
        have h8 := (Below.refl w7.heap.size w7).alloc (Nat.le_refl _) (.cells #[.int .i16 d1.day, .slice (some ⟨g1, 0, none⟩) d1.cs.length d1.cs.length] 30)
        have X8 := Lib.hid (heap_alloc_new w7 (.cells #[.int .i16 d1.day, .slice (some ⟨g1, 0, none⟩) d1.cs.length d1.cs.length] 30))
        have Y8 := Lib.hid (show w7.heap.size < (World.alloc w7 (.cells #[.int .i16 d1.day, .slice (some ⟨g1, 0, none⟩) d1.cs.length d1.cs.length] 30)).heap.size by simp)
        have q_y0_0 := cell_of_row w7 _ 0 _ _ _ y0_7.out
        have q_y0_1 := cell_of_row w7 _ 1 _ _ _ y0_7.out
        simp only [List.getElem?_toArray, List.getElem?_cons_zero, List.getElem?_cons_succ] at q_y0_0 q_y0_1
        have ql_y0 := y0_7_l.out
        go_wp2_with fail
        generalize World.alloc w7 _ = w8 at X8 h8 Y8 ⊢
        have z8 := h8.size
        have yy8 := Y8.out
        have B8 := Lib.hid (bnext B7.out h8)
        have zb8 := B8.out.size
        have a0_8 := Lib.hid ((h8.block _ a0_7_l.out).trans a0_7.out)
        have a0_8_l := Lib.hid (Nat.lt_of_lt_of_le a0_7_l.out z8)
        have a1_8 := Lib.hid ((h8.block _ a1_7_l.out).trans a1_7.out)
        have a1_8_l := Lib.hid (Nat.lt_of_lt_of_le a1_7_l.out z8)
        have x0_8 := Lib.hid (x0_7.out.below h8)
        have y0_8 := Lib.hid ((h8.block _ y0_7_l.out).trans y0_7.out)
        have y0_8_l := Lib.hid (Nat.lt_of_lt_of_le y0_7_l.out z8)
        have x1_8 := Lib.hid (P1.out.below h8)
        refine (sameDesk_any d0 d1 _ _ _ WF0.out WF1.out (CRowK.cps x0_8.out _) (CRowK.cps x1_8.out _) ML0.out ML1.out).mono ?_
        rintro e w9 ⟨rfl, h9⟩
        have z9 := h9.size
        clear q_y0_0 q_y0_1 ql_y0
        have B9 := Lib.hid (bnext B8.out h9)
        have zb9 := B9.out.size
        have a0_9 := Lib.hid ((h9.block _ a0_8_l.out).trans a0_8.out)
        have a0_9_l := Lib.hid (Nat.lt_of_lt_of_le a0_8_l.out z9)
        have a1_9 := Lib.hid ((h9.block _ a1_8_l.out).trans a1_8.out)
        have a1_9_l := Lib.hid (Nat.lt_of_lt_of_le a1_8_l.out z9)
        have x0_9 := Lib.hid (x0_8.out.below h9)
        have y0_9 := Lib.hid ((h9.block _ y0_8_l.out).trans y0_8.out)
        have y0_9_l := Lib.hid (Nat.lt_of_lt_of_le y0_8_l.out z9)
        have x1_9 := Lib.hid (x1_8.out.below h9)
        have y1_9 := Lib.hid ((h9.block _ Y8.out).trans X8.out)
        have y1_9_l := Lib.hid (Nat.lt_of_lt_of_le Y8.out z9)
        generalize hrc0 : sdB d0 d1 = rc0
        have HRC0 := Lib.hid hrc0
        clear hrc0
        have b0_0 : Below w9.heap.size w9 w9.drew := (Below.refl _ _).drew
        have HK0 := Lib.hid (show ∀ W1, Below w9.heap.size w9 W1 → (fun W1 => Below w9.heap.size w9 W1 ∧ W1.cell? ⟨w5.heap.size, 0, none⟩ = some (.int .i16 d0.day) ∧ W1.cell? ⟨w5.heap.size, 1, none⟩ = some (.slice (some ⟨g0, 0, none⟩) d0.cs.length d0.cs.length) ∧ W1.cell? ⟨w.heap.size, 0, none⟩ = some (.int .i16 d0.day) ∧ W1.cell? ⟨w.heap.size, 1, none⟩ = some (.slice A0 d0.cs.length k0)) W1 from fun W1 hB => ⟨hB, (hB.cell (p := ⟨_, 0, none⟩) y0_9_l.out).trans (cell_of_row w9 _ 0 _ _ _ y0_9.out), (hB.cell (p := ⟨_, 1, none⟩) y0_9_l.out).trans (cell_of_row w9 _ 1 _ _ _ y0_9.out), (hB.cell (p := ⟨_, 0, none⟩) a0_9_l.out).trans (cell_of_row w9 _ 0 _ _ _ a0_9.out), (hB.cell (p := ⟨_, 1, none⟩) a0_9_l.out).trans (cell_of_row w9 _ 1 _ _ _ a0_9.out)⟩)
        have RR0 := Lib.hid (CRowK.cps x0_9.out d0.cs.length)
        go_wp2
        go_region_held3 (fun W1 => Below w9.heap.size w9 W1 ∧ W1.cell? ⟨w5.heap.size, 0, none⟩ = some (.int .i16 d0.day) ∧ W1.cell? ⟨w5.heap.size, 1, none⟩ = some (.slice (some ⟨g0, 0, none⟩) d0.cs.length d0.cs.length) ∧ W1.cell? ⟨w.heap.size, 0, none⟩ = some (.int .i16 d0.day) ∧ W1.cell? ⟨w.heap.size, 1, none⟩ = some (.slice A0 d0.cs.length k0)) (first | exact HK0.out _ b0_0 | (refine HK0.out _ (bnext ?_ hq); exact And.left (by assumption))) (first
          | (go_at_call 17; refine (toDesk_any d0 _ _ (SL0.out.below (bnext B9.out (And.left (by assumption)))) hn0).mono ?_; rintro e w' ⟨gz, rfl, hg, hr, hq⟩; have HR := Lib.hid (CRowK.cps hr d0.cs.length); clear hr hg)
          | (go_at_call 19; refine (eqDesk_same d0 _ _ _ (RR0.out.below (And.left (by assumption))) HR.out WF0.out.2 ML0.out).mono ?_; rintro e w10 ⟨rfl, hq⟩))
        all_goals
          have h10 : Below w9.heap.size w9 w10 := And.left (by assumption)
          have z10 := h10.size
          clear HK0 b0_0 RR0 HR
          have B10 := Lib.hid (bnext B9.out h10)
          have zb10 := B10.out.size
          have a0_10 := Lib.hid ((h10.block _ a0_9_l.out).trans a0_9.out)
          have a0_10_l := Lib.hid (Nat.lt_of_lt_of_le a0_9_l.out z10)
          have a1_10 := Lib.hid ((h10.block _ a1_9_l.out).trans a1_9.out)
          have a1_10_l := Lib.hid (Nat.lt_of_lt_of_le a1_9_l.out z10)
          have x0_10 := Lib.hid (x0_9.out.below h10)
          have y0_10 := Lib.hid ((h10.block _ y0_9_l.out).trans y0_9.out)
          have y0_10_l := Lib.hid (Nat.lt_of_lt_of_le y0_9_l.out z10)
          have x1_10 := Lib.hid (x1_9.out.below h10)
          have y1_10 := Lib.hid ((h10.block _ y1_9_l.out).trans y1_9.out)
          have y1_10_l := Lib.hid (Nat.lt_of_lt_of_le y1_9_l.out z10)
          have b0_1 : Below w10.heap.size w10 w10.drew := (Below.refl _ _).drew
          have HK1 := Lib.hid (show ∀ W1, Below w10.heap.size w10 W1 → (fun W1 => Below w10.heap.size w10 W1 ∧ W1.cell? ⟨w7.heap.size, 0, none⟩ = some (.int .i16 d1.day) ∧ W1.cell? ⟨w7.heap.size, 1, none⟩ = some (.slice (some ⟨g1, 0, none⟩) d1.cs.length d1.cs.length) ∧ W1.cell? ⟨(w.heap.size + 1), 0, none⟩ = some (.int .i16 d1.day) ∧ W1.cell? ⟨(w.heap.size + 1), 1, none⟩ = some (.slice A1 d1.cs.length k1)) W1 from fun W1 hB => ⟨hB, (hB.cell (p := ⟨_, 0, none⟩) y1_10_l.out).trans (cell_of_row w10 _ 0 _ _ _ y1_10.out), (hB.cell (p := ⟨_, 1, none⟩) y1_10_l.out).trans (cell_of_row w10 _ 1 _ _ _ y1_10.out), (hB.cell (p := ⟨_, 0, none⟩) a1_10_l.out).trans (cell_of_row w10 _ 0 _ _ _ a1_10.out), (hB.cell (p := ⟨_, 1, none⟩) a1_10_l.out).trans (cell_of_row w10 _ 1 _ _ _ a1_10.out)⟩)
          have RR1 := Lib.hid (CRowK.cps x1_10.out d1.cs.length)
          go_wp2
          go_region_held3 (fun W1 => Below w10.heap.size w10 W1 ∧ W1.cell? ⟨w7.heap.size, 0, none⟩ = some (.int .i16 d1.day) ∧ W1.cell? ⟨w7.heap.size, 1, none⟩ = some (.slice (some ⟨g1, 0, none⟩) d1.cs.length d1.cs.length) ∧ W1.cell? ⟨(w.heap.size + 1), 0, none⟩ = some (.int .i16 d1.day) ∧ W1.cell? ⟨(w.heap.size + 1), 1, none⟩ = some (.slice A1 d1.cs.length k1)) (first | exact HK1.out _ b0_1 | (refine HK1.out _ (bnext ?_ hq); exact And.left (by assumption))) (first
            | (go_at_call 17; refine (toDesk_any d1 _ _ (SL1.out.below (bnext B10.out (And.left (by assumption)))) hn1).mono ?_; rintro e w' ⟨gz, rfl, hg, hr, hq⟩; have HR := Lib.hid (CRowK.cps hr d1.cs.length); clear hr hg)
            | (go_at_call 19; refine (eqDesk_same d1 _ _ _ (RR1.out.below (And.left (by assumption))) HR.out WF1.out.2 ML1.out).mono ?_; rintro e w11 ⟨rfl, hq⟩))
          all_goals
            have h11 : Below w10.heap.size w10 w11 := And.left (by assumption)
            have z11 := h11.size
            clear HK1 b0_1 RR1 HR
            have B11 := Lib.hid (bnext B10.out h11)
            have zb11 := B11.out.size
            have a0_11 := Lib.hid ((h11.block _ a0_10_l.out).trans a0_10.out)
            have a0_11_l := Lib.hid (Nat.lt_of_lt_of_le a0_10_l.out z11)
            have a1_11 := Lib.hid ((h11.block _ a1_10_l.out).trans a1_10.out)
            have a1_11_l := Lib.hid (Nat.lt_of_lt_of_le a1_10_l.out z11)
            have x0_11 := Lib.hid (x0_10.out.below h11)
            have y0_11 := Lib.hid ((h11.block _ y0_10_l.out).trans y0_10.out)
            have y0_11_l := Lib.hid (Nat.lt_of_lt_of_le y0_10_l.out z11)
            have x1_11 := Lib.hid (x1_10.out.below h11)
            have y1_11 := Lib.hid ((h11.block _ y1_10_l.out).trans y1_10.out)
            have y1_11_l := Lib.hid (Nat.lt_of_lt_of_le y1_10_l.out z11)
            go_wp2
            go_ret
            exact ⟨rfl, B11.out⟩
    · have e1 : (1048576 - (csz d0.cs : Int) - (csz d1.cs : Int) < 0) := by omega
      go_enter Try.func4, Try.ntmps4
      have X0 := Lib.hid (show (World.alloc (World.alloc w (.cells #[.int .i16 d0.day, .slice A0 d0.cs.length k0] 25)) (.cells #[.int .i16 d1.day, .slice A1 d1.cs.length k1] 25)).heap[w.heap.size]? = some (Obj.cells #[.int .i16 d0.day, .slice A0 d0.cs.length k0] 25 (0, 0)) from (Below.heap_alloc _ _ _ (by simp)).trans (heap_alloc_new w _))
      have X1 := Lib.hid (show (World.alloc (World.alloc w (.cells #[.int .i16 d0.day, .slice A0 d0.cs.length k0] 25)) (.cells #[.int .i16 d1.day, .slice A1 d1.cs.length k1] 25)).heap[w.heap.size + 1]? = some (Obj.cells #[.int .i16 d1.day, .slice A1 d1.cs.length k1] 25 (0, 0)) from by have := heap_alloc_new (World.alloc w (.cells #[.int .i16 d0.day, .slice A0 d0.cs.length k0] 25)) (.cells #[.int .i16 d1.day, .slice A1 d1.cs.length k1] 25); rwa [World.size_alloc] at this)
      have Y0 := Lib.hid (show w.heap.size < (World.alloc (World.alloc w (.cells #[.int .i16 d0.day, .slice A0 d0.cs.length k0] 25)) (.cells #[.int .i16 d1.day, .slice A1 d1.cs.length k1] 25)).heap.size by simp; omega)
      have Y1 := Lib.hid (show w.heap.size + 1 < (World.alloc (World.alloc w (.cells #[.int .i16 d0.day, .slice A0 d0.cs.length k0] 25)) (.cells #[.int .i16 d1.day, .slice A1 d1.cs.length k1] 25)).heap.size by simp)
      have h1 : Below w.heap.size w (World.alloc (World.alloc w (.cells #[.int .i16 d0.day, .slice A0 d0.cs.length k0] 25)) (.cells #[.int .i16 d1.day, .slice A1 d1.cs.length k1] 25)) := by go_grown
      go_wp2_with fail
      generalize World.alloc (World.alloc w _) _ = w1 at X0 X1 Y0 Y1 h1 ⊢
      have z1 := h1.size
      have B1 := Lib.hid h1
      have zb1 := B1.out.size
      refine (szDesk_left d0 _ _ _ (SL0.out.below B1.out) WF0.out.2 ML0.out (by omega) (by omega)).mono ?_
      rintro e w2 ⟨rfl, h2⟩
      have z2 := h2.size
      have B2 := Lib.hid (bnext B1.out h2)
      have zb2 := B2.out.size
      have a0_2 := Lib.hid ((h2.block _ Y0.out).trans X0.out)
      have a0_2_l := Lib.hid (Nat.lt_of_lt_of_le Y0.out z2)
      have a1_2 := Lib.hid ((h2.block _ Y1.out).trans X1.out)
      have a1_2_l := Lib.hid (Nat.lt_of_lt_of_le Y1.out z2)
      rw [if_pos (by omega)]
      have q_a1_0 := cell_of_row w2 _ 0 _ _ _ a1_2.out
      have q_a1_1 := cell_of_row w2 _ 1 _ _ _ a1_2.out
      simp only [List.getElem?_toArray, List.getElem?_cons_zero, List.getElem?_cons_succ] at q_a1_0 q_a1_1
      go_wp2_with fail
      refine (szDesk_left d1 _ _ _ (SL1.out.below B2.out) WF1.out.2 ML1.out (by omega) (by omega)).mono ?_
      rintro e w3 ⟨rfl, h3⟩
      have z3 := h3.size
      clear q_a1_0 q_a1_1
      have B3 := Lib.hid (bnext B2.out h3)
      have zb3 := B3.out.size
      have a0_3 := Lib.hid ((h3.block _ a0_2_l.out).trans a0_2.out)
      have a0_3_l := Lib.hid (Nat.lt_of_lt_of_le a0_2_l.out z3)
      have a1_3 := Lib.hid ((h3.block _ a1_2_l.out).trans a1_2.out)
      have a1_3_l := Lib.hid (Nat.lt_of_lt_of_le a1_2_l.out z3)
      rw [if_neg (by omega)]
      go_wp2
      go_ret
      exact ⟨rfl, B3.out⟩
  · have e0 : (1048576 - (csz d0.cs : Int) < 0) := by omega
    go_enter Try.func4, Try.ntmps4
    have X0 := Lib.hid (show (World.alloc (World.alloc w (.cells #[.int .i16 d0.day, .slice A0 d0.cs.length k0] 25)) (.cells #[.int .i16 d1.day, .slice A1 d1.cs.length k1] 25)).heap[w.heap.size]? = some (Obj.cells #[.int .i16 d0.day, .slice A0 d0.cs.length k0] 25 (0, 0)) from (Below.heap_alloc _ _ _ (by simp)).trans (heap_alloc_new w _))
    have X1 := Lib.hid (show (World.alloc (World.alloc w (.cells #[.int .i16 d0.day, .slice A0 d0.cs.length k0] 25)) (.cells #[.int .i16 d1.day, .slice A1 d1.cs.length k1] 25)).heap[w.heap.size + 1]? = some (Obj.cells #[.int .i16 d1.day, .slice A1 d1.cs.length k1] 25 (0, 0)) from by have := heap_alloc_new (World.alloc w (.cells #[.int .i16 d0.day, .slice A0 d0.cs.length k0] 25)) (.cells #[.int .i16 d1.day, .slice A1 d1.cs.length k1] 25); rwa [World.size_alloc] at this)
    have Y0 := Lib.hid (show w.heap.size < (World.alloc (World.alloc w (.cells #[.int .i16 d0.day, .slice A0 d0.cs.length k0] 25)) (.cells #[.int .i16 d1.day, .slice A1 d1.cs.length k1] 25)).heap.size by simp; omega)
    have Y1 := Lib.hid (show w.heap.size + 1 < (World.alloc (World.alloc w (.cells #[.int .i16 d0.day, .slice A0 d0.cs.length k0] 25)) (.cells #[.int .i16 d1.day, .slice A1 d1.cs.length k1] 25)).heap.size by simp)
    have h1 : Below w.heap.size w (World.alloc (World.alloc w (.cells #[.int .i16 d0.day, .slice A0 d0.cs.length k0] 25)) (.cells #[.int .i16 d1.day, .slice A1 d1.cs.length k1] 25)) := by go_grown
    go_wp2_with fail
    generalize World.alloc (World.alloc w _) _ = w1 at X0 X1 Y0 Y1 h1 ⊢
    have z1 := h1.size
    have B1 := Lib.hid h1
    have zb1 := B1.out.size
    refine (szDesk_left d0 _ _ _ (SL0.out.below B1.out) WF0.out.2 ML0.out (by omega) (by omega)).mono ?_
    rintro e w2 ⟨rfl, h2⟩
    have z2 := h2.size
    have B2 := Lib.hid (bnext B1.out h2)
    have zb2 := B2.out.size
    have a0_2 := Lib.hid ((h2.block _ Y0.out).trans X0.out)
    have a0_2_l := Lib.hid (Nat.lt_of_lt_of_le Y0.out z2)
    have a1_2 := Lib.hid ((h2.block _ Y1.out).trans X1.out)
    have a1_2_l := Lib.hid (Nat.lt_of_lt_of_le Y1.out z2)
    rw [if_neg (by omega)]
    go_wp2
    go_ret
    exact ⟨rfl, B2.out⟩

end Go.Proofs.Ytmafjncaigllbaa
