/- The law of OneSlip, walked. Condition: the three error variables hold three different errors of errors.New's make. -/
import Derived.Test.YtkclobdealnkhaaDoorSlJ
import Derived.Test.YtkclobdealnkhaaDoorFlB
import Derived.Deep.RegionHeld3
import Derived.Test.YtkclobdealnkhaaDoorOwnsI
namespace Go.Proofs.YtkclobdealnkhaaDoor
set_option linter.unusedSimpArgs false
set_option linter.unusedVariables false
set_option maxRecDepth 100000
open Go.RowKit

theorem rowOtherOneSlip {w w' : World} {g g' : Nat} {xs : List Bk} (h : Row w g xs) (hg : w.grownBy w' (some g')) (hne : g ≠ g') : Row w' g xs := by
  obtain ⟨cs, h1, h2⟩ := h
  exact ⟨cs, (hg.block g (Array.getElem?_eq_some_iff.1 h1).1 (fun e => hne (by injection e))).trans h1, h2⟩
theorem irowOtherOneSlip {w w' : World} {g g' : Nat} {t : TypeId} {zs : List Int} (h : IRow .i64 t w g zs) (hg : w.grownBy w' (some g')) (hne : g ≠ g') : IRow .i64 t w' g zs := by
  obtain ⟨cs, h1, h2⟩ := h
  exact ⟨cs, (hg.block g (Array.getElem?_eq_some_iff.1 h1).1 (fun e => hne (by injection e))).trans h1, h2⟩

set_option maxHeartbeats 16000000 in
theorem walkOneSlip (v0 : Value) (xs0 : List Bk) (wf0 : ∀ b ∈ xs0, b.Wf) (v1 : Value) (xs1 : List Bk) (wf1 : ∀ b ∈ xs1, b.Wf) (w : World) (s i y : Addr) (he : Errs w s i y) (sl0 : SliceOf w v0 xs0) (ml0 : xs0.length ≤ maxLen) (sl1 : SliceOf w v1 xs1) (ml1 : xs1.length ≤ maxLen) :
    Calls Tryd.prog 3 #[v0, v1] w fun e w' => e = .returned (.bool true) ∧ Below w.heap.size w w' := by
  have mx0 : xs0.length ≤ 9223372036854775807 := by unfold maxLen at ml0; omega
  have SL0 := Lib.hid sl0
  have WF0 := Lib.hid wf0
  have ML0 := Lib.hid ml0
  obtain ⟨A0, k0, rfl, -⟩ := sl0
  have mx1 : xs1.length ≤ 9223372036854775807 := by unfold maxLen at ml1; omega
  have SL1 := Lib.hid sl1
  have WF1 := Lib.hid wf1
  have ML1 := Lib.hid ml1
  obtain ⟨A1, k1, rfl, -⟩ := sl1
  have HE := Lib.hid he
  clear wf0 ml0 wf1 ml1 he
  by_cases hn0 : (xs0.length : Int) ≤ 1048576
  · have e0 : ¬ (1048576 - (xs0.length : Int) < 0) := by omega
    by_cases hn1 : (xs1.length : Int) ≤ 1048576 - (xs0.length : Int)
    · have e1 : ¬ (1048576 - (xs0.length : Int) - (xs1.length : Int) < 0) := by omega
      go_enter Tryd.func3, Tryd.ntmps3
      go_wp2_with fail
      refine (szBookS_left _ _ _ _ _ mx0 (by omega) (by omega)).mono ?_
      rintro e w' ⟨rfl, rfl⟩
      rw [if_pos (by omega)]
      go_wp2_with fail
      refine (szBookS_left _ _ _ _ _ mx1 (by omega) (by omega)).mono ?_
      rintro e w' ⟨rfl, rfl⟩
      rw [if_pos (by omega)]
      replace hn0 : xs0.length ≤ 1048576 := by omega
      replace hn1 : xs1.length ≤ 1048576 := by omega
      go_wp2_with fail
      refine (toBookS_any _ xs0 _ (SL0.out) hn0).mono ?_
      rintro e w1 ⟨g0, rfl, lo0, hr0, h1⟩
      have z1 := h1.size
      have B1 := Lib.hid h1
      have zb1 := B1.out.size
      have P0 := Lib.hid hr0
      have hi0 := hr0.lt
      clear hr0
      go_wp2_with fail
      refine (toBookS_any _ xs1 _ (SL1.out.below B1.out) hn1).mono ?_
      rintro e w2 ⟨g1, rfl, lo1, hr1, h2⟩
      have z2 := h2.size
      have B2 := Lib.hid (bnext B1.out h2)
      have zb2 := B2.out.size
      have s0_2 := Lib.hid (P0.out.below h2 P0.out.lt)
      have P1 := Lib.hid hr1
      have hi1 := hr1.lt
      clear hr1
      go_wp2_with fail
      refine (specOneSlip_any _ _ _ _ _ _ xs0 xs1 WF0.out WF1.out _ (Row.slice s0_2.out) (Row.slice P1.out) (Nat.le_refl _) (Nat.le_refl _) hn0 hn1).mono ?_
      rintro e w3 ⟨rfl, h3⟩
      have z3 := h3.size
      have B3 := Lib.hid (bnext B2.out h3)
      have zb3 := B3.out.size
      have s0_3 := Lib.hid (s0_2.out.below h3 s0_2.out.lt)
      have s1_3 := Lib.hid (P1.out.below h3 P1.out.lt)
      have h4 := (Below.refl w3.heap.size w3).alloc (Nat.le_refl _) (.cells #[.int .i16 ((slR xs0 xs1).1), .int .i16 ((slR xs0 xs1).2.1)] 26)
      have X4 := Lib.hid (heap_alloc_new w3 (.cells #[.int .i16 ((slR xs0 xs1).1), .int .i16 ((slR xs0 xs1).2.1)] 26))
      have Y4 := Lib.hid (show w3.heap.size < (World.alloc w3 (.cells #[.int .i16 ((slR xs0 xs1).1), .int .i16 ((slR xs0 xs1).2.1)] 26)).heap.size by simp)
      go_wp2_with fail
      generalize World.alloc w3 _ = w4 at X4 h4 Y4 ⊢
      have z4 := h4.size
      have yy4 := Y4.out
      have B4 := Lib.hid (bnext B3.out h4)
      have zb4 := B4.out.size
      refine (toBookS_any _ xs0 _ (SL0.out.below B4.out) hn0).mono ?_
      rintro e w5 ⟨g2, rfl, lo2, hr2, h5⟩
      have z5 := h5.size
      have B5 := Lib.hid (bnext B4.out h5)
      have zb5 := B5.out.size
      have ub0_5 := Lib.hid ((h5.block _ Y4.out).trans X4.out)
      have ub0_5_l := Lib.hid (Nat.lt_of_lt_of_le Y4.out z5)
      have P2 := Lib.hid hr2
      have hi2 := hr2.lt
      clear hr2
      go_wp2_with fail
      refine (toBookS_any _ xs1 _ (SL1.out.below B5.out) hn1).mono ?_
      rintro e w6 ⟨g3, rfl, lo3, hr3, h6⟩
      have z6 := h6.size
      have B6 := Lib.hid (bnext B5.out h6)
      have zb6 := B6.out.size
      have ub0_6 := Lib.hid ((h6.block _ ub0_5_l.out).trans ub0_5.out)
      have ub0_6_l := Lib.hid (Nat.lt_of_lt_of_le ub0_5_l.out z6)
      have x0_6 := Lib.hid (P2.out.below h6 P2.out.lt)
      have P3 := Lib.hid hr3
      have hi3 := hr3.lt
      clear hr3
      go_wp2_with fail
      refine (oneSlip_any _ _ _ _ xs0 xs1 WF0.out WF1.out _ s i y (HE.out.below B6.out) (Row.slice x0_6.out) (Row.slice P3.out) (Nat.le_refl _) hn0 hn1).mono ?_
      rintro e w7 ⟨rfl, h7⟩
      have z7 := h7.size
      have B7 := Lib.hid (bnext B6.out h7)
      have zb7 := B7.out.size
      have ub0_7 := Lib.hid ((h7.block _ ub0_6_l.out).trans ub0_6.out)
      have ub0_7_l := Lib.hid (Nat.lt_of_lt_of_le ub0_6_l.out z7)
      have x0_7 := Lib.hid (x0_6.out.below h7 x0_6.out.lt)
      have x1_7 := Lib.hid (P3.out.below h7 P3.out.lt)
      generalize hrc1 : (slR xs0 xs1).2.2 = rc1
      have HRC1 := Lib.hid hrc1
      clear hrc1
      have h8 := (Below.refl w7.heap.size w7).alloc (Nat.le_refl _) (.cells #[.int .i16 ((slR xs0 xs1).1), .int .i16 ((slR xs0 xs1).2.1)] 26)
      have X8 := Lib.hid (heap_alloc_new w7 (.cells #[.int .i16 ((slR xs0 xs1).1), .int .i16 ((slR xs0 xs1).2.1)] 26))
      have Y8 := Lib.hid (show w7.heap.size < (World.alloc w7 (.cells #[.int .i16 ((slR xs0 xs1).1), .int .i16 ((slR xs0 xs1).2.1)] 26)).heap.size by simp)
      have q_u_0 := (h8.cell (p := ⟨_, 0, none⟩) ub0_7_l.out).trans (cell_of_row w7 _ 0 _ _ _ ub0_7.out)
      have q_u_1 := (h8.cell (p := ⟨_, 1, none⟩) ub0_7_l.out).trans (cell_of_row w7 _ 1 _ _ _ ub0_7.out)
      have qp_u_0 := cell_of_row w7 _ 0 _ _ _ ub0_7.out
      have qp_u_1 := cell_of_row w7 _ 1 _ _ _ ub0_7.out
      have ql_u := ub0_7_l.out
      simp only [List.getElem?_toArray, List.getElem?_cons_zero, List.getElem?_cons_succ] at q_u_0 q_u_1 qp_u_0 qp_u_1
      go_wp2_with fail
      generalize World.alloc w7 _ = w8 at X8 h8 Y8 ⊢
      have z8 := h8.size
      have yy8 := Y8.out
      have B8 := Lib.hid (bnext B7.out h8)
      have zb8 := B8.out.size
      have ub0_8 := Lib.hid ((h8.block _ ub0_7_l.out).trans ub0_7.out)
      have ub0_8_l := Lib.hid (Nat.lt_of_lt_of_le ub0_7_l.out z8)
      have x0_8 := Lib.hid (x0_7.out.below h8 x0_7.out.lt)
      have x1_8 := Lib.hid (x1_7.out.below h8 x1_7.out.lt)
      refine (eqMove_same ⟨(slR xs0 xs1).1, (slR xs0 xs1).2.1⟩ _).mono ?_
      rintro e w9 ⟨rfl, h9⟩
      have z9 := h9.size
      clear q_u_0 q_u_1 qp_u_0 qp_u_1 ql_u
      have B9 := Lib.hid (bnext B8.out h9)
      have zb9 := B9.out.size
      have ub0_9 := Lib.hid ((h9.block _ ub0_8_l.out).trans ub0_8.out)
      have ub0_9_l := Lib.hid (Nat.lt_of_lt_of_le ub0_8_l.out z9)
      have x0_9 := Lib.hid (x0_8.out.below h9 x0_8.out.lt)
      have x1_9 := Lib.hid (x1_8.out.below h9 x1_8.out.lt)
      have tb0_9 := Lib.hid ((h9.block _ Y8.out).trans X8.out)
      have tb0_9_l := Lib.hid (Nat.lt_of_lt_of_le Y8.out z9)
      go_wp2_with fail
      refine (toBookS_any _ xs0 _ (SL0.out.below B9.out) hn0).mono ?_
      rintro e w10 ⟨g4, rfl, lo4, hr4, h10⟩
      have z10 := h10.size
      have B10 := Lib.hid (bnext B9.out h10)
      have zb10 := B10.out.size
      have x0_10 := Lib.hid (x0_9.out.below h10 x0_9.out.lt)
      have x1_10 := Lib.hid (x1_9.out.below h10 x1_9.out.lt)
      have P4 := Lib.hid hr4
      have hi4 := hr4.lt
      clear hr4
      go_wp2_with fail
      refine (eqBookS_same _ _ xs0 _ (Row.slice x0_10.out) (Row.slice P4.out) ML0.out).mono ?_
      rintro e w11 ⟨rfl, h11⟩
      have z11 := h11.size
      have B11 := Lib.hid (bnext B10.out h11)
      have zb11 := B11.out.size
      have x0_11 := Lib.hid (x0_10.out.below h11 x0_10.out.lt)
      have x1_11 := Lib.hid (x1_10.out.below h11 x1_10.out.lt)
      have d0_11 := Lib.hid (P4.out.below h11 P4.out.lt)
      go_wp2_with fail
      refine (toBookS_any _ xs1 _ (SL1.out.below B11.out) hn1).mono ?_
      rintro e w12 ⟨g5, rfl, lo5, hr5, h12⟩
      have z12 := h12.size
      have B12 := Lib.hid (bnext B11.out h12)
      have zb12 := B12.out.size
      have x0_12 := Lib.hid (x0_11.out.below h12 x0_11.out.lt)
      have x1_12 := Lib.hid (x1_11.out.below h12 x1_11.out.lt)
      have P5 := Lib.hid hr5
      have hi5 := hr5.lt
      clear hr5
      go_wp2_with fail
      refine (eqBookS_same _ _ xs1 _ (Row.slice x1_12.out) (Row.slice P5.out) ML1.out).mono ?_
      rintro e w13 ⟨rfl, h13⟩
      have z13 := h13.size
      have B13 := Lib.hid (bnext B12.out h13)
      have zb13 := B13.out.size
      have x0_13 := Lib.hid (x0_12.out.below h13 x0_12.out.lt)
      have x1_13 := Lib.hid (x1_12.out.below h13 x1_12.out.lt)
      have d1_13 := Lib.hid (P5.out.below h13 P5.out.lt)
      go_wp2
      go_ret
      exact ⟨rfl, B13.out⟩
    · have e1 : (1048576 - (xs0.length : Int) - (xs1.length : Int) < 0) := by omega
      go_enter Tryd.func3, Tryd.ntmps3
      go_wp2_with fail
      refine (szBookS_left _ _ _ _ _ mx0 (by omega) (by omega)).mono ?_
      rintro e w' ⟨rfl, rfl⟩
      rw [if_pos (by omega)]
      go_wp2_with fail
      refine (szBookS_left _ _ _ _ _ mx1 (by omega) (by omega)).mono ?_
      rintro e w' ⟨rfl, rfl⟩
      rw [if_neg (by omega)]
      go_wp2
      go_ret
      exact ⟨rfl, Below.refl _ _⟩
  · have e0 : (1048576 - (xs0.length : Int) < 0) := by omega
    go_enter Tryd.func3, Tryd.ntmps3
    go_wp2_with fail
    refine (szBookS_left _ _ _ _ _ mx0 (by omega) (by omega)).mono ?_
    rintro e w' ⟨rfl, rfl⟩
    rw [if_neg (by omega)]
    go_wp2
    go_ret
    exact ⟨rfl, Below.refl _ _⟩

end Go.Proofs.YtkclobdealnkhaaDoor
