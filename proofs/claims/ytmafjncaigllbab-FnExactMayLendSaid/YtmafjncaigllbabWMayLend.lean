/- The law of MayLend, walked. No condition. -/
import Derived.Test.YtmafjncaigllbabDkL2
import Derived.Test.YtmafjncaigllbabDkM
import Derived.Deep.RegionHeld3
namespace Go.Proofs.Ytmafjncaigllbab
set_option linter.unusedSimpArgs false
set_option linter.unusedVariables false
set_option maxRecDepth 100000
open Go.RowKit

set_option maxHeartbeats 16000000 in
theorem walkMayLend (d0 : Dk) (hv0 : Value) (wf0 : d0.Wf ∧ ∀ c ∈ d0.cs, c.q.length ≤ maxLen) (a1 : Int) (wf1 : (Lit.int .i64 a1).wf = true) (a2 : Int) (wf2 : (Lit.int .i64 a2).wf = true) (w : World) (sl0 : CpsOf w hv0 d0.cs) (ml0 : d0.cs.length ≤ maxLen) :
    Calls Try.prog 3 #[.agg #[.int .i16 d0.day, hv0], .int .i64 a1, .int .i64 a2] w fun e w' => e = .returned (.bool true) ∧ Below w.heap.size w w' := by
  have mx0 : d0.cs.length ≤ 9223372036854775807 := by unfold maxLen at ml0; omega
  have SL0 := Lib.hid sl0
  have WF0 := Lib.hid wf0
  have ML0 := Lib.hid ml0
  obtain ⟨A0, k0, rfl, -⟩ := sl0
  have WI1 := Lib.hid wf1
  have WI2 := Lib.hid wf2
  clear wf0 ml0 wf1 wf2
  by_cases hn0 : (csz d0.cs : Int) ≤ 1048576
  · have e0 : ¬ (1048576 - (csz d0.cs : Int) < 0) := by omega
    go_enter Try.func3, Try.ntmps3
    have h1 := (Below.refl w.heap.size w).alloc (Nat.le_refl _) (.cells #[.int .i16 d0.day, .slice A0 d0.cs.length k0] 25)
    have X1 := Lib.hid (heap_alloc_new w (.cells #[.int .i16 d0.day, .slice A0 d0.cs.length k0] 25))
    have Y1 := Lib.hid (show w.heap.size < (World.alloc w (.cells #[.int .i16 d0.day, .slice A0 d0.cs.length k0] 25)).heap.size by simp)
    go_wp2_with fail
    generalize World.alloc w _ = w1 at X1 h1 Y1 ⊢
    have z1 := h1.size
    have yy1 := Y1.out
    have B1 := Lib.hid h1
    have zb1 := B1.out.size
    refine (szDesk_left d0 _ _ _ (SL0.out.below B1.out) WF0.out.2 ML0.out (by omega) (by omega)).mono ?_
    rintro e w2 ⟨rfl, h2⟩
    have z2 := h2.size
    have B2 := Lib.hid (bnext B1.out h2)
    have zb2 := B2.out.size
    have a0_2 := Lib.hid ((h2.block _ Y1.out).trans X1.out)
    have a0_2_l := Lib.hid (Nat.lt_of_lt_of_le Y1.out z2)
    rw [if_pos (by omega)]
    replace hn0 : csz d0.cs ≤ 1048576 := by omega
    have q_a0_0 := cell_of_row w2 _ 0 _ _ _ a0_2.out
    have q_a0_1 := cell_of_row w2 _ 1 _ _ _ a0_2.out
    simp only [List.getElem?_toArray, List.getElem?_cons_zero, List.getElem?_cons_succ] at q_a0_0 q_a0_1
    go_wp2_with fail
    refine (toDesk_any d0 _ _ (SL0.out.below B2.out) hn0).mono ?_
    rintro e w3 ⟨g0, rfl, lo0, hr0, h3⟩
    have z3 := h3.size
    clear q_a0_0 q_a0_1
    have B3 := Lib.hid (bnext B2.out h3)
    have zb3 := B3.out.size
    have a0_3 := Lib.hid ((h3.block _ a0_2_l.out).trans a0_2.out)
    have a0_3_l := Lib.hid (Nat.lt_of_lt_of_le a0_2_l.out z3)
    have P0 := Lib.hid hr0
    have hi0 := hr0.lt
    clear hr0
    go_wp2_with fail
    refine (specMayLend_any d0 _ WF0.out a1 a2 _ (CRowK.cps P0.out _) ML0.out).mono ?_
    rintro e w4 ⟨rfl, h4⟩
    have z4 := h4.size
    have B4 := Lib.hid (bnext B3.out h4)
    have zb4 := B4.out.size
    have a0_4 := Lib.hid ((h4.block _ a0_3_l.out).trans a0_3.out)
    have a0_4_l := Lib.hid (Nat.lt_of_lt_of_le a0_3_l.out z4)
    have s0_4 := Lib.hid (P0.out.below h4)
    have q_a0_0 := cell_of_row w4 _ 0 _ _ _ a0_4.out
    have q_a0_1 := cell_of_row w4 _ 1 _ _ _ a0_4.out
    simp only [List.getElem?_toArray, List.getElem?_cons_zero, List.getElem?_cons_succ] at q_a0_0 q_a0_1
    go_wp2_with fail
    refine (toDesk_any d0 _ _ (SL0.out.below B4.out) hn0).mono ?_
    rintro e w5 ⟨g1, rfl, lo1, hr1, h5⟩
    have z5 := h5.size
    clear q_a0_0 q_a0_1
    have B5 := Lib.hid (bnext B4.out h5)
    have zb5 := B5.out.size
    have a0_5 := Lib.hid ((h5.block _ a0_4_l.out).trans a0_4.out)
    have a0_5_l := Lib.hid (Nat.lt_of_lt_of_le a0_4_l.out z5)
    have P1 := Lib.hid hr1
    have hi1 := hr1.lt
    clear hr1
    have h6 := (Below.refl w5.heap.size w5).alloc (Nat.le_refl _) (.cells #[.int .i16 d0.day, .slice (some ⟨g1, 0, none⟩) d0.cs.length d0.cs.length] 31)
    have X6 := Lib.hid (heap_alloc_new w5 (.cells #[.int .i16 d0.day, .slice (some ⟨g1, 0, none⟩) d0.cs.length d0.cs.length] 31))
    have Y6 := Lib.hid (show w5.heap.size < (World.alloc w5 (.cells #[.int .i16 d0.day, .slice (some ⟨g1, 0, none⟩) d0.cs.length d0.cs.length] 31)).heap.size by simp)
    go_wp2_with fail
    generalize World.alloc w5 _ = w6 at X6 h6 Y6 ⊢
    have z6 := h6.size
    have yy6 := Y6.out
    have B6 := Lib.hid (bnext B5.out h6)
    have zb6 := B6.out.size
    have a0_6 := Lib.hid ((h6.block _ a0_5_l.out).trans a0_5.out)
    have a0_6_l := Lib.hid (Nat.lt_of_lt_of_le a0_5_l.out z6)
    have x0_6 := Lib.hid (P1.out.below h6)
    refine (implMayLend_any d0 WF0.out a1 a2 _ _ x0_6.out ML0.out).mono ?_
    rintro e w7 ⟨rfl, h7⟩
    have z7 := h7.size
    have B7 := Lib.hid (bnext B6.out h7)
    have zb7 := B7.out.size
    have a0_7 := Lib.hid ((h7.block _ a0_6_l.out).trans a0_6.out)
    have a0_7_l := Lib.hid (Nat.lt_of_lt_of_le a0_6_l.out z7)
    have x0_7 := Lib.hid (x0_6.out.below h7)
    have y0_7 := Lib.hid ((h7.block _ Y6.out).trans X6.out)
    have y0_7_l := Lib.hid (Nat.lt_of_lt_of_le Y6.out z7)
    generalize hrc0 : mayB d0 a1 a2 = rc0
    have HRC0 := Lib.hid hrc0
    clear hrc0
    generalize hrc1 : askC d0 a1 a2 = rc1
    have HRC1 := Lib.hid hrc1
    clear hrc1
    have b0_0 : Below w7.heap.size w7 w7.drew := (Below.refl _ _).drew
    have HK0 := Lib.hid (show ∀ W1, Below w7.heap.size w7 W1 → (fun W1 => Below w7.heap.size w7 W1 ∧ W1.cell? ⟨w5.heap.size, 0, none⟩ = some (.int .i16 d0.day) ∧ W1.cell? ⟨w5.heap.size, 1, none⟩ = some (.slice (some ⟨g1, 0, none⟩) d0.cs.length d0.cs.length) ∧ W1.cell? ⟨w.heap.size, 0, none⟩ = some (.int .i16 d0.day) ∧ W1.cell? ⟨w.heap.size, 1, none⟩ = some (.slice A0 d0.cs.length k0)) W1 from fun W1 hB => ⟨hB, (hB.cell (p := ⟨_, 0, none⟩) y0_7_l.out).trans (cell_of_row w7 _ 0 _ _ _ y0_7.out), (hB.cell (p := ⟨_, 1, none⟩) y0_7_l.out).trans (cell_of_row w7 _ 1 _ _ _ y0_7.out), (hB.cell (p := ⟨_, 0, none⟩) a0_7_l.out).trans (cell_of_row w7 _ 0 _ _ _ a0_7.out), (hB.cell (p := ⟨_, 1, none⟩) a0_7_l.out).trans (cell_of_row w7 _ 1 _ _ _ a0_7.out)⟩)
    have RR0 := Lib.hid (CRowK.cps x0_7.out d0.cs.length)
    go_wp2
    go_region_held3 (fun W1 => Below w7.heap.size w7 W1 ∧ W1.cell? ⟨w5.heap.size, 0, none⟩ = some (.int .i16 d0.day) ∧ W1.cell? ⟨w5.heap.size, 1, none⟩ = some (.slice (some ⟨g1, 0, none⟩) d0.cs.length d0.cs.length) ∧ W1.cell? ⟨w.heap.size, 0, none⟩ = some (.int .i16 d0.day) ∧ W1.cell? ⟨w.heap.size, 1, none⟩ = some (.slice A0 d0.cs.length k0)) (first | exact HK0.out _ b0_0 | (refine HK0.out _ (bnext ?_ hq); exact And.left (by assumption))) (first
      | (go_at_call 6; refine (toDesk_any d0 _ _ (SL0.out.below (bnext B7.out (And.left (by assumption)))) hn0).mono ?_; rintro e w' ⟨gz, rfl, hg, hr, hq⟩; have HR := Lib.hid (CRowK.cps hr d0.cs.length); clear hr hg)
      | (go_at_call 8; refine (eqDesk_same d0 _ _ _ (RR0.out.below (And.left (by assumption))) HR.out WF0.out.2 ML0.out).mono ?_; rintro e w8 ⟨rfl, hq⟩))
    all_goals
      have h8 : Below w7.heap.size w7 w8 := And.left (by assumption)
      have z8 := h8.size
      clear HK0 b0_0 RR0 HR
      have B8 := Lib.hid (bnext B7.out h8)
      have zb8 := B8.out.size
      have a0_8 := Lib.hid ((h8.block _ a0_7_l.out).trans a0_7.out)
      have a0_8_l := Lib.hid (Nat.lt_of_lt_of_le a0_7_l.out z8)
      have x0_8 := Lib.hid (x0_7.out.below h8)
      have y0_8 := Lib.hid ((h8.block _ y0_7_l.out).trans y0_7.out)
      have y0_8_l := Lib.hid (Nat.lt_of_lt_of_le y0_7_l.out z8)
      go_wp2
      go_ret
      exact ⟨rfl, B8.out⟩
  · have e0 : (1048576 - (csz d0.cs : Int) < 0) := by omega
    go_enter Try.func3, Try.ntmps3
    have h1 := (Below.refl w.heap.size w).alloc (Nat.le_refl _) (.cells #[.int .i16 d0.day, .slice A0 d0.cs.length k0] 25)
    have X1 := Lib.hid (heap_alloc_new w (.cells #[.int .i16 d0.day, .slice A0 d0.cs.length k0] 25))
    have Y1 := Lib.hid (show w.heap.size < (World.alloc w (.cells #[.int .i16 d0.day, .slice A0 d0.cs.length k0] 25)).heap.size by simp)
    go_wp2_with fail
    generalize World.alloc w _ = w1 at X1 h1 Y1 ⊢
    have z1 := h1.size
    have yy1 := Y1.out
    have B1 := Lib.hid h1
    have zb1 := B1.out.size
    refine (szDesk_left d0 _ _ _ (SL0.out.below B1.out) WF0.out.2 ML0.out (by omega) (by omega)).mono ?_
    rintro e w2 ⟨rfl, h2⟩
    have z2 := h2.size
    have B2 := Lib.hid (bnext B1.out h2)
    have zb2 := B2.out.size
    have a0_2 := Lib.hid ((h2.block _ Y1.out).trans X1.out)
    have a0_2_l := Lib.hid (Nat.lt_of_lt_of_le Y1.out z2)
    rw [if_neg (by omega)]
    go_wp2
    go_ret
    exact ⟨rfl, B2.out⟩

end Go.Proofs.Ytmafjncaigllbab
