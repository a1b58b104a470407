/- The law of SplitRack, walked. Condition: the three error variables hold three different errors of errors.New's make. -/
import Derived.Test.YteeblpdjpaellaaDoorSpS
import Derived.Test.YteeblpdjpaellaaDoorRk
import Derived.Deep.RegionHeld3
namespace Go.Proofs.YteeblpdjpaellaaDoor
set_option linter.unusedSimpArgs false
set_option linter.unusedVariables false
set_option maxRecDepth 100000
open Go.RowKit

theorem spSl {w : World} {base : Nat} {v : Value} {ys : List Pl} (h : ResN Pl.cells 67 w base v ys) : ∃ A c, v = .slice A ys.length c := by
  rcases h with ⟨rfl, rfl⟩ | ⟨g, N, rfl, _⟩
  · exact ⟨none, 0, rfl⟩
  · exact ⟨_, N, rfl⟩
/-- Both racks in slice form. -/
def SpS (n1 n2 k : Int) (l1 l2 : List Pl) (w : World) (e : Ending) (w' : World) : Prop :=
  ∃ A0 c0 A1 c1, e = .returned (.tuple #[.agg #[.int .i16 n1, .slice A0 l1.length c0], .agg #[.int .i16 n2, .slice A1 l2.length c1], .int .i64 k]) ∧ ResN Pl.cells 67 w' w.heap.size (.slice A0 l1.length c0) l1 ∧ ResN Pl.cells 67 w' w.heap.size (.slice A1 l2.length c1) l2 ∧ (∀ q, (Value.slice A0 l1.length c0).ownBlock = some q → (Value.slice A1 l2.length c1).ownBlock ≠ some q) ∧ Below w.heap.size w w'
theorem spS_of {r : Rk} {a n1 n2 k : Int} {l1 l2 : List Pl} (e1 : spN1 r a = n1) (e2 : spL1 r a = l1) (e3 : spN2 r a = n2) (e4 : spL2 r a = l2) (e5 : spC r a = k) {w w' : World} {e : Ending} (h : SpR r a w e w') : SpS n1 n2 k l1 l2 w e w' := by
  subst e1 e2 e3 e4 e5
  obtain ⟨u, v, rfl, h1, h2, h3, h4⟩ := h
  obtain ⟨A0, c0, rfl⟩ := spSl h1
  obtain ⟨A1, c1, rfl⟩ := spSl h2
  exact ⟨A0, c0, A1, c1, rfl, h1, h2, h3, h4⟩
set_option maxHeartbeats 16000000 in
theorem walkSplitRack (r0 : Rk) (hv0 : Value) (wf0 : r0.Wf) (a1 : Int) (wf1 : (Lit.int .i64 a1).wf = true) (w : World) (s i : Addr) (he : Er2 w s i) (sl0 : PlsOf w hv0 r0.ps) (ml0 : r0.ps.length ≤ maxLen) :
    Calls Tryd.prog 4 #[.agg #[.int .i16 r0.n, hv0], .int .i64 a1] w fun e w' => e = .returned (.bool true) ∧ Below w.heap.size w w' := by
  have mx0 : r0.ps.length ≤ 9223372036854775807 := by unfold maxLen at ml0; omega
  have SL0 := Lib.hid sl0
  have WF0 := Lib.hid wf0
  have ML0 := Lib.hid ml0
  obtain ⟨A0, k0, rfl, -⟩ := sl0
  have WI1 := Lib.hid wf1
  have HE := Lib.hid he
  have le1 := spL1_len r0 a1
  have le2 := spL2_len r0 a1
  obtain ⟨n1, en1⟩ : ∃ n1, spN1 r0 a1 = n1 := ⟨_, rfl⟩
  obtain ⟨n2, en2⟩ : ∃ n2, spN2 r0 a1 = n2 := ⟨_, rfl⟩
  obtain ⟨l1, el1⟩ : ∃ l1, spL1 r0 a1 = l1 := ⟨_, rfl⟩
  obtain ⟨l2, el2⟩ : ∃ l2, spL2 r0 a1 = l2 := ⟨_, rfl⟩
  obtain ⟨rc, erc⟩ : ∃ rc, spC r0 a1 = rc := ⟨_, rfl⟩
  rw [el1] at le1
  rw [el2] at le2
  have SP := Lib.hid (fun hv W hs => (specSplitRack_any r0 hv WF0.out a1 WI1.out W hs ML0.out).mono fun _ _ h => spS_of en1 el1 en2 el2 erc h)
  have IM := Lib.hid (fun hv W he hs hn => (splitRack_any r0 hv WF0.out a1 WI1.out W s i he hs hn).mono fun _ _ h => spS_of en1 el1 en2 el2 erc h)
  clear wf0 ml0 wf1 he en1 en2 el1 el2 erc
  by_cases hn0 : (r0.ps.length : Int) ≤ 1048576
  · skip
    have e0 : ¬ (1048576 - (r0.ps.length : Int) < 0) := by omega
    go_enter Tryd.func4, Tryd.ntmps4
    have h1 : Below w.heap.size w (World.alloc w (.cells #[.int .i16 r0.n, .slice A0 r0.ps.length k0] 37)) := ((Below.refl w.heap.size w).alloc (Nat.le_refl _) (.cells #[.int .i16 r0.n, .slice A0 r0.ps.length k0] 37))
    have X1_0 := Lib.hid (show (World.alloc w (.cells #[.int .i16 r0.n, .slice A0 r0.ps.length k0] 37)).heap[w.heap.size]? = some (.cells #[.int .i16 r0.n, .slice A0 r0.ps.length k0] 37 (0, 0)) from heap_alloc_new w (.cells #[.int .i16 r0.n, .slice A0 r0.ps.length k0] 37))
    have Y1_0 := Lib.hid ((Array.getElem?_eq_some_iff.1 X1_0.out).1)
    go_upto_region 1 with (fail)
    generalize World.alloc w _ = w1 at h1 X1_0 Y1_0 ⊢
    have z1 := h1.size
    have B1 := Lib.hid h1
    have zb1 := B1.out.size
    have yy1_0 := Y1_0.out
    have q_a0_0 := cell_of_row w1 _ 0 _ _ _ X1_0.out
    have q_a0_1 := cell_of_row w1 _ 1 _ _ _ X1_0.out
    simp only [List.getElem?_toArray, List.getElem?_cons_zero, List.getElem?_cons_succ] at q_a0_0 q_a0_1
    go_wp2_with fail
    refine (szRack_left r0 _ _ _ _ mx0 (by omega) (by omega)).mono ?_
    rintro e w2 ⟨rfl, h2⟩
    have z2 := h2.size
    clear q_a0_0 q_a0_1
    have B2 := Lib.hid (bnext B1.out h2)
    have zb2 := B2.out.size
    have a0_2 := Lib.hid ((h2.block _ Y1_0.out).trans X1_0.out)
    have a0_2_l := Lib.hid (Nat.lt_of_lt_of_le Y1_0.out z2)
    rw [if_pos (by omega)]
    replace hn0 : r0.ps.length ≤ 1048576 := by omega
    have LR0 := Lib.hid (show l1.length ≤ 1048576 from Nat.le_trans le1 hn0)
    have LM0 := Lib.hid (show l1.length ≤ maxLen from Nat.le_trans LR0.out (by unfold maxLen; omega))
    have LR1 := Lib.hid (show l2.length ≤ 1048576 from Nat.le_trans le2 hn0)
    have LM1 := Lib.hid (show l2.length ≤ maxLen from Nat.le_trans LR1.out (by unfold maxLen; omega))
    have lr1 := LR0.out
    have lr2 := LR1.out
    have q_a0_0 := cell_of_row w2 _ 0 _ _ _ a0_2.out
    have q_a0_1 := cell_of_row w2 _ 1 _ _ _ a0_2.out
    simp only [List.getElem?_toArray, List.getElem?_cons_zero, List.getElem?_cons_succ] at q_a0_0 q_a0_1
    go_wp2_with fail
    refine (toRack_any r0 _ _ (SL0.out.below B2.out) hn0).mono ?_
    rintro e w3 ⟨g0, rfl, lo0, hr0, h3⟩
    have z3 := h3.size
    clear q_a0_0 q_a0_1
    have B3 := Lib.hid (bnext B2.out h3)
    have zb3 := B3.out.size
    have a0_3 := Lib.hid ((h3.block _ a0_2_l.out).trans a0_2.out)
    have a0_3_l := Lib.hid (Nat.lt_of_lt_of_le a0_2_l.out z3)
    have P0 := Lib.hid hr0
    have hi0 := hr0.lt
    clear hr0
    go_wp2_with fail
    refine (SP.out _ _ (RowN.slice P0.out)).mono ?_
    rintro e w4 ⟨Au0, ku0, Au1, ku1, rfl, hu0, hu1, apu, h4⟩
    have z4 := h4.size
    have B4 := Lib.hid (bnext B3.out h4)
    have zb4 := B4.out.size
    have a0_4 := Lib.hid ((h4.block _ a0_3_l.out).trans a0_3.out)
    have a0_4_l := Lib.hid (Nat.lt_of_lt_of_le a0_3_l.out z4)
    have s0_4 := Lib.hid (P0.out.below h4 P0.out.lt)
    have Fu0 := Lib.hid hu0
    have Lu0 := Lib.hid Fu0.out.lt
    clear hu0
    have Fu1 := Lib.hid hu1
    have Lu1 := Lib.hid Fu1.out.lt
    clear hu1
    have APu := Lib.hid apu
    clear apu
    have h5 : Below w4.heap.size w4 (World.alloc (World.alloc w4 (.cells #[.int .i16 n1, (.slice Au0 l1.length ku0)] 41)) (.cells #[.int .i16 n2, (.slice Au1 l2.length ku1)] 41)) := (((Below.refl w4.heap.size w4).alloc (Nat.le_refl _) (.cells #[.int .i16 n1, (.slice Au0 l1.length ku0)] 41)).alloc (by simp) (.cells #[.int .i16 n2, (.slice Au1 l2.length ku1)] 41))
    have X5_0 := Lib.hid (show (World.alloc (World.alloc w4 (.cells #[.int .i16 n1, (.slice Au0 l1.length ku0)] 41)) (.cells #[.int .i16 n2, (.slice Au1 l2.length ku1)] 41)).heap[w4.heap.size]? = some (.cells #[.int .i16 n1, (.slice Au0 l1.length ku0)] 41 (0, 0)) from (Below.heap_alloc _ _ _ (by simp)).trans (heap_alloc_new w4 (.cells #[.int .i16 n1, (.slice Au0 l1.length ku0)] 41)))
    have Y5_0 := Lib.hid ((Array.getElem?_eq_some_iff.1 X5_0.out).1)
    have X5_1 := Lib.hid (show (World.alloc (World.alloc w4 (.cells #[.int .i16 n1, (.slice Au0 l1.length ku0)] 41)) (.cells #[.int .i16 n2, (.slice Au1 l2.length ku1)] 41)).heap[w4.heap.size + 1]? = some (.cells #[.int .i16 n2, (.slice Au1 l2.length ku1)] 41 (0, 0)) from by
      have hh := heap_alloc_new (World.alloc w4 (.cells #[.int .i16 n1, (.slice Au0 l1.length ku0)] 41)) (.cells #[.int .i16 n2, (.slice Au1 l2.length ku1)] 41)
      rw [World.size_alloc] at hh
      exact hh)
    have Y5_1 := Lib.hid ((Array.getElem?_eq_some_iff.1 X5_1.out).1)
    go_upto_region 6 with (fail)
    generalize World.alloc (World.alloc w4 _) _ = w5 at h5 X5_0 Y5_0 X5_1 Y5_1 ⊢
    have z5 := h5.size
    have B5 := Lib.hid (bnext B4.out h5)
    have zb5 := B5.out.size
    have a0_5 := Lib.hid ((h5.block _ a0_4_l.out).trans a0_4.out)
    have a0_5_l := Lib.hid (Nat.lt_of_lt_of_le a0_4_l.out z5)
    have u0_5 := Lib.hid (Fu0.out.below h5)
    have u1_5 := Lib.hid (Fu1.out.below h5)
    have yy5_0 := Y5_0.out
    have yy5_1 := Y5_1.out
    have q_a0_0 := cell_of_row w5 _ 0 _ _ _ a0_5.out
    have q_a0_1 := cell_of_row w5 _ 1 _ _ _ a0_5.out
    simp only [List.getElem?_toArray, List.getElem?_cons_zero, List.getElem?_cons_succ] at q_a0_0 q_a0_1
    go_wp2_with fail
    refine (toRack_any r0 _ _ (SL0.out.below B5.out) hn0).mono ?_
    rintro e w6 ⟨g1, rfl, lo1, hr1, h6⟩
    have z6 := h6.size
    clear q_a0_0 q_a0_1
    have B6 := Lib.hid (bnext B5.out h6)
    have zb6 := B6.out.size
    have a0_6 := Lib.hid ((h6.block _ a0_5_l.out).trans a0_5.out)
    have a0_6_l := Lib.hid (Nat.lt_of_lt_of_le a0_5_l.out z6)
    have u0_6 := Lib.hid (u0_5.out.below h6)
    have u1_6 := Lib.hid (u1_5.out.below h6)
    have ub0_6 := Lib.hid ((h6.block _ Y5_0.out).trans X5_0.out)
    have ub0_6_l := Lib.hid (Nat.lt_of_lt_of_le Y5_0.out z6)
    have ub1_6 := Lib.hid ((h6.block _ Y5_1.out).trans X5_1.out)
    have ub1_6_l := Lib.hid (Nat.lt_of_lt_of_le Y5_1.out z6)
    have P1 := Lib.hid hr1
    have hi1 := hr1.lt
    clear hr1
    have h7 : Below w6.heap.size w6 (World.alloc w6 (.cells #[.int .i16 r0.n, .slice (some ⟨g1, 0, none⟩) r0.ps.length r0.ps.length] 41)) := ((Below.refl w6.heap.size w6).alloc (Nat.le_refl _) (.cells #[.int .i16 r0.n, .slice (some ⟨g1, 0, none⟩) r0.ps.length r0.ps.length] 41))
    have X7_0 := Lib.hid (show (World.alloc w6 (.cells #[.int .i16 r0.n, .slice (some ⟨g1, 0, none⟩) r0.ps.length r0.ps.length] 41)).heap[w6.heap.size]? = some (.cells #[.int .i16 r0.n, .slice (some ⟨g1, 0, none⟩) r0.ps.length r0.ps.length] 41 (0, 0)) from heap_alloc_new w6 (.cells #[.int .i16 r0.n, .slice (some ⟨g1, 0, none⟩) r0.ps.length r0.ps.length] 41))
    have Y7_0 := Lib.hid ((Array.getElem?_eq_some_iff.1 X7_0.out).1)
    go_upto_region 7 with (fail)
    generalize World.alloc w6 _ = w7 at h7 X7_0 Y7_0 ⊢
    have z7 := h7.size
    have B7 := Lib.hid (bnext B6.out h7)
    have zb7 := B7.out.size
    have a0_7 := Lib.hid ((h7.block _ a0_6_l.out).trans a0_6.out)
    have a0_7_l := Lib.hid (Nat.lt_of_lt_of_le a0_6_l.out z7)
    have u0_7 := Lib.hid (u0_6.out.below h7)
    have u1_7 := Lib.hid (u1_6.out.below h7)
    have ub0_7 := Lib.hid ((h7.block _ ub0_6_l.out).trans ub0_6.out)
    have ub0_7_l := Lib.hid (Nat.lt_of_lt_of_le ub0_6_l.out z7)
    have ub1_7 := Lib.hid ((h7.block _ ub1_6_l.out).trans ub1_6.out)
    have ub1_7_l := Lib.hid (Nat.lt_of_lt_of_le ub1_6_l.out z7)
    have x0_7 := Lib.hid (P1.out.below h7 P1.out.lt)
    have yy7_0 := Y7_0.out
    have q_y0_0 := cell_of_row w7 _ 0 _ _ _ X7_0.out
    have q_y0_1 := cell_of_row w7 _ 1 _ _ _ X7_0.out
    simp only [List.getElem?_toArray, List.getElem?_cons_zero, List.getElem?_cons_succ] at q_y0_0 q_y0_1
    go_wp2_with fail
    refine (IM.out _ _ (HE.out.below B7.out) (RowN.slice x0_7.out) hn0).mono ?_
    rintro e w8 ⟨At0, kt0, At1, kt1, rfl, ht0, ht1, apt, h8⟩
    have z8 := h8.size
    clear q_y0_0 q_y0_1
    have B8 := Lib.hid (bnext B7.out h8)
    have zb8 := B8.out.size
    have a0_8 := Lib.hid ((h8.block _ a0_7_l.out).trans a0_7.out)
    have a0_8_l := Lib.hid (Nat.lt_of_lt_of_le a0_7_l.out z8)
    have u0_8 := Lib.hid (u0_7.out.below h8)
    have u1_8 := Lib.hid (u1_7.out.below h8)
    have ub0_8 := Lib.hid ((h8.block _ ub0_7_l.out).trans ub0_7.out)
    have ub0_8_l := Lib.hid (Nat.lt_of_lt_of_le ub0_7_l.out z8)
    have ub1_8 := Lib.hid ((h8.block _ ub1_7_l.out).trans ub1_7.out)
    have ub1_8_l := Lib.hid (Nat.lt_of_lt_of_le ub1_7_l.out z8)
    have x0_8 := Lib.hid (x0_7.out.below h8 x0_7.out.lt)
    have y0_8 := Lib.hid ((h8.block _ Y7_0.out).trans X7_0.out)
    have y0_8_l := Lib.hid (Nat.lt_of_lt_of_le Y7_0.out z8)
    have Ft0 := Lib.hid ht0
    have Lt0 := Lib.hid Ft0.out.lt
    clear ht0
    have Ft1 := Lib.hid ht1
    have Lt1 := Lib.hid Ft1.out.lt
    clear ht1
    have APt := Lib.hid apt
    clear apt
    have h9 : Below w8.heap.size w8 (World.alloc (World.alloc w8 (.cells #[.int .i16 n1, (.slice At0 l1.length kt0)] 41)) (.cells #[.int .i16 n2, (.slice At1 l2.length kt1)] 41)) := (((Below.refl w8.heap.size w8).alloc (Nat.le_refl _) (.cells #[.int .i16 n1, (.slice At0 l1.length kt0)] 41)).alloc (by simp) (.cells #[.int .i16 n2, (.slice At1 l2.length kt1)] 41))
    have X9_0 := Lib.hid (show (World.alloc (World.alloc w8 (.cells #[.int .i16 n1, (.slice At0 l1.length kt0)] 41)) (.cells #[.int .i16 n2, (.slice At1 l2.length kt1)] 41)).heap[w8.heap.size]? = some (.cells #[.int .i16 n1, (.slice At0 l1.length kt0)] 41 (0, 0)) from (Below.heap_alloc _ _ _ (by simp)).trans (heap_alloc_new w8 (.cells #[.int .i16 n1, (.slice At0 l1.length kt0)] 41)))
    have Y9_0 := Lib.hid ((Array.getElem?_eq_some_iff.1 X9_0.out).1)
    have X9_1 := Lib.hid (show (World.alloc (World.alloc w8 (.cells #[.int .i16 n1, (.slice At0 l1.length kt0)] 41)) (.cells #[.int .i16 n2, (.slice At1 l2.length kt1)] 41)).heap[w8.heap.size + 1]? = some (.cells #[.int .i16 n2, (.slice At1 l2.length kt1)] 41 (0, 0)) from by
      have hh := heap_alloc_new (World.alloc w8 (.cells #[.int .i16 n1, (.slice At0 l1.length kt0)] 41)) (.cells #[.int .i16 n2, (.slice At1 l2.length kt1)] 41)
      rw [World.size_alloc] at hh
      exact hh)
    have Y9_1 := Lib.hid ((Array.getElem?_eq_some_iff.1 X9_1.out).1)
    go_upto_region 8 with (fail)
    generalize World.alloc (World.alloc w8 _) _ = w9 at h9 X9_0 Y9_0 X9_1 Y9_1 ⊢
    have z9 := h9.size
    have B9 := Lib.hid (bnext B8.out h9)
    have zb9 := B9.out.size
    have a0_9 := Lib.hid ((h9.block _ a0_8_l.out).trans a0_8.out)
    have a0_9_l := Lib.hid (Nat.lt_of_lt_of_le a0_8_l.out z9)
    have u0_9 := Lib.hid (u0_8.out.below h9)
    have u1_9 := Lib.hid (u1_8.out.below h9)
    have ub0_9 := Lib.hid ((h9.block _ ub0_8_l.out).trans ub0_8.out)
    have ub0_9_l := Lib.hid (Nat.lt_of_lt_of_le ub0_8_l.out z9)
    have ub1_9 := Lib.hid ((h9.block _ ub1_8_l.out).trans ub1_8.out)
    have ub1_9_l := Lib.hid (Nat.lt_of_lt_of_le ub1_8_l.out z9)
    have x0_9 := Lib.hid (x0_8.out.below h9 x0_8.out.lt)
    have y0_9 := Lib.hid ((h9.block _ y0_8_l.out).trans y0_8.out)
    have y0_9_l := Lib.hid (Nat.lt_of_lt_of_le y0_8_l.out z9)
    have t0_9 := Lib.hid (Ft0.out.below h9)
    have t1_9 := Lib.hid (Ft1.out.below h9)
    have yy9_0 := Y9_0.out
    have yy9_1 := Y9_1.out
    have q_tb0_0 := cell_of_row w9 _ 0 _ _ _ X9_0.out
    have q_tb0_1 := cell_of_row w9 _ 1 _ _ _ X9_0.out
    simp only [List.getElem?_toArray, List.getElem?_cons_zero, List.getElem?_cons_succ] at q_tb0_0 q_tb0_1
    have q_ub0_0 := cell_of_row w9 _ 0 _ _ _ ub0_9.out
    have q_ub0_1 := cell_of_row w9 _ 1 _ _ _ ub0_9.out
    simp only [List.getElem?_toArray, List.getElem?_cons_zero, List.getElem?_cons_succ] at q_ub0_0 q_ub0_1
    go_wp2_with fail
    refine (eqRack_same ⟨n1, l1⟩ _ _ _ t0_9.out.slice u0_9.out.slice LM0.out).mono ?_
    rintro e w10 ⟨rfl, h10⟩
    have z10 := h10.size
    clear q_tb0_0 q_tb0_1 q_ub0_0 q_ub0_1
    have B10 := Lib.hid (bnext B9.out h10)
    have zb10 := B10.out.size
    have a0_10 := Lib.hid ((h10.block _ a0_9_l.out).trans a0_9.out)
    have a0_10_l := Lib.hid (Nat.lt_of_lt_of_le a0_9_l.out z10)
    have u0_10 := Lib.hid (u0_9.out.below h10)
    have u1_10 := Lib.hid (u1_9.out.below h10)
    have ub0_10 := Lib.hid ((h10.block _ ub0_9_l.out).trans ub0_9.out)
    have ub0_10_l := Lib.hid (Nat.lt_of_lt_of_le ub0_9_l.out z10)
    have ub1_10 := Lib.hid ((h10.block _ ub1_9_l.out).trans ub1_9.out)
    have ub1_10_l := Lib.hid (Nat.lt_of_lt_of_le ub1_9_l.out z10)
    have x0_10 := Lib.hid (x0_9.out.below h10 x0_9.out.lt)
    have y0_10 := Lib.hid ((h10.block _ y0_9_l.out).trans y0_9.out)
    have y0_10_l := Lib.hid (Nat.lt_of_lt_of_le y0_9_l.out z10)
    have t0_10 := Lib.hid (t0_9.out.below h10)
    have t1_10 := Lib.hid (t1_9.out.below h10)
    have tb0_10 := Lib.hid ((h10.block _ Y9_0.out).trans X9_0.out)
    have tb0_10_l := Lib.hid (Nat.lt_of_lt_of_le Y9_0.out z10)
    have tb1_10 := Lib.hid ((h10.block _ Y9_1.out).trans X9_1.out)
    have tb1_10_l := Lib.hid (Nat.lt_of_lt_of_le Y9_1.out z10)
    have q_tb1_0 := cell_of_row w10 _ 0 _ _ _ tb1_10.out
    have q_tb1_1 := cell_of_row w10 _ 1 _ _ _ tb1_10.out
    simp only [List.getElem?_toArray, List.getElem?_cons_zero, List.getElem?_cons_succ] at q_tb1_0 q_tb1_1
    have q_ub1_0 := cell_of_row w10 _ 0 _ _ _ ub1_10.out
    have q_ub1_1 := cell_of_row w10 _ 1 _ _ _ ub1_10.out
    simp only [List.getElem?_toArray, List.getElem?_cons_zero, List.getElem?_cons_succ] at q_ub1_0 q_ub1_1
    go_wp2_with fail
    refine (eqRack_same ⟨n2, l2⟩ _ _ _ t1_10.out.slice u1_10.out.slice LM1.out).mono ?_
    rintro e w11 ⟨rfl, h11⟩
    have z11 := h11.size
    clear q_tb1_0 q_tb1_1 q_ub1_0 q_ub1_1
    have B11 := Lib.hid (bnext B10.out h11)
    have zb11 := B11.out.size
    have a0_11 := Lib.hid ((h11.block _ a0_10_l.out).trans a0_10.out)
    have a0_11_l := Lib.hid (Nat.lt_of_lt_of_le a0_10_l.out z11)
    have u0_11 := Lib.hid (u0_10.out.below h11)
    have u1_11 := Lib.hid (u1_10.out.below h11)
    have ub0_11 := Lib.hid ((h11.block _ ub0_10_l.out).trans ub0_10.out)
    have ub0_11_l := Lib.hid (Nat.lt_of_lt_of_le ub0_10_l.out z11)
    have ub1_11 := Lib.hid ((h11.block _ ub1_10_l.out).trans ub1_10.out)
    have ub1_11_l := Lib.hid (Nat.lt_of_lt_of_le ub1_10_l.out z11)
    have x0_11 := Lib.hid (x0_10.out.below h11 x0_10.out.lt)
    have y0_11 := Lib.hid ((h11.block _ y0_10_l.out).trans y0_10.out)
    have y0_11_l := Lib.hid (Nat.lt_of_lt_of_le y0_10_l.out z11)
    have t0_11 := Lib.hid (t0_10.out.below h11)
    have t1_11 := Lib.hid (t1_10.out.below h11)
    have tb0_11 := Lib.hid ((h11.block _ tb0_10_l.out).trans tb0_10.out)
    have tb0_11_l := Lib.hid (Nat.lt_of_lt_of_le tb0_10_l.out z11)
    have tb1_11 := Lib.hid ((h11.block _ tb1_10_l.out).trans tb1_10.out)
    have tb1_11_l := Lib.hid (Nat.lt_of_lt_of_le tb1_10_l.out z11)
    have b0_0 : Below w11.heap.size w11 w11.drew := (Below.refl _ _).drew
    have HK0 := Lib.hid (show ∀ W1, Below w11.heap.size w11 W1 → (fun W1 => Below w11.heap.size w11 W1 ∧ W1.cell? ⟨w6.heap.size, 0, none⟩ = some (.int .i16 r0.n) ∧ W1.cell? ⟨w6.heap.size, 1, none⟩ = some (.slice (some ⟨g1, 0, none⟩) r0.ps.length r0.ps.length) ∧ W1.cell? ⟨w.heap.size, 0, none⟩ = some (.int .i16 r0.n) ∧ W1.cell? ⟨w.heap.size, 1, none⟩ = some (.slice A0 r0.ps.length k0)) W1 from fun W1 hB => ⟨hB, (hB.cell (p := ⟨_, 0, none⟩) y0_11_l.out).trans (cell_of_row w11 _ 0 _ _ _ y0_11.out), (hB.cell (p := ⟨_, 1, none⟩) y0_11_l.out).trans (cell_of_row w11 _ 1 _ _ _ y0_11.out), (hB.cell (p := ⟨_, 0, none⟩) a0_11_l.out).trans (cell_of_row w11 _ 0 _ _ _ a0_11.out), (hB.cell (p := ⟨_, 1, none⟩) a0_11_l.out).trans (cell_of_row w11 _ 1 _ _ _ a0_11.out)⟩)
    have RR0 := Lib.hid (RowN.slice (c := r0.ps.length) x0_11.out)
    go_wp2
    go_region_held3 (fun W1 => Below w11.heap.size w11 W1 ∧ W1.cell? ⟨w6.heap.size, 0, none⟩ = some (.int .i16 r0.n) ∧ W1.cell? ⟨w6.heap.size, 1, none⟩ = some (.slice (some ⟨g1, 0, none⟩) r0.ps.length r0.ps.length) ∧ W1.cell? ⟨w.heap.size, 0, none⟩ = some (.int .i16 r0.n) ∧ W1.cell? ⟨w.heap.size, 1, none⟩ = some (.slice A0 r0.ps.length k0)) (first | exact HK0.out _ b0_0 | (refine HK0.out _ (bnext ?_ hq); exact And.left (by assumption))) (first
      | (go_at_call 17; refine (toRack_any r0 _ _ (SL0.out.below (bnext B11.out (And.left (by assumption)))) hn0).mono ?_; rintro e w' ⟨gz, rfl, hg, hr, hq⟩; have HR := Lib.hid (RowN.slice (c := r0.ps.length) hr); clear hr hg)
      | (go_at_call 19; refine (eqRack_same r0 _ _ _ (RR0.out.below (And.left (by assumption))) HR.out ML0.out).mono ?_; rintro e w12 ⟨rfl, hq⟩))
    all_goals
      have h12 : Below w11.heap.size w11 w12 := And.left (by assumption)
      have z12 := h12.size
      clear HK0 b0_0 RR0 HR
      have B12 := Lib.hid (bnext B11.out h12)
      have zb12 := B12.out.size
      have a0_12 := Lib.hid ((h12.block _ a0_11_l.out).trans a0_11.out)
      have a0_12_l := Lib.hid (Nat.lt_of_lt_of_le a0_11_l.out z12)
      have u0_12 := Lib.hid (u0_11.out.below h12)
      have u1_12 := Lib.hid (u1_11.out.below h12)
      have ub0_12 := Lib.hid ((h12.block _ ub0_11_l.out).trans ub0_11.out)
      have ub0_12_l := Lib.hid (Nat.lt_of_lt_of_le ub0_11_l.out z12)
      have ub1_12 := Lib.hid ((h12.block _ ub1_11_l.out).trans ub1_11.out)
      have ub1_12_l := Lib.hid (Nat.lt_of_lt_of_le ub1_11_l.out z12)
      have x0_12 := Lib.hid (x0_11.out.below h12 x0_11.out.lt)
      have y0_12 := Lib.hid ((h12.block _ y0_11_l.out).trans y0_11.out)
      have y0_12_l := Lib.hid (Nat.lt_of_lt_of_le y0_11_l.out z12)
      have t0_12 := Lib.hid (t0_11.out.below h12)
      have t1_12 := Lib.hid (t1_11.out.below h12)
      have tb0_12 := Lib.hid ((h12.block _ tb0_11_l.out).trans tb0_11.out)
      have tb0_12_l := Lib.hid (Nat.lt_of_lt_of_le tb0_11_l.out z12)
      have tb1_12 := Lib.hid ((h12.block _ tb1_11_l.out).trans tb1_11.out)
      have tb1_12_l := Lib.hid (Nat.lt_of_lt_of_le tb1_11_l.out z12)
      have q_y0_0 := cell_of_row w12 _ 0 _ _ _ y0_12.out
      have q_y0_1 := cell_of_row w12 _ 1 _ _ _ y0_12.out
      simp only [List.getElem?_toArray, List.getElem?_cons_zero, List.getElem?_cons_succ] at q_y0_0 q_y0_1
      go_wp2_with fail
      refine (markRackRow_any r0.n g1 r0.ps.length 1 _ (RowX.of x0_12.out) hn0 (by omega) (by omega)).mono ?_
      rintro e w13 ⟨rfl, -, h13⟩
      have z13 := h13.size
      clear q_y0_0 q_y0_1
      have B13 := Lib.hid (B12.out.grown h13 B12.out.size (fun k hk => by injection hk with hk; omega))
      have zb13 := B13.out.size
      have a0_13 := Lib.hid ((h13.block _ a0_12_l.out (fun e => by injection e with e; omega)).trans a0_12.out)
      have a0_13_l := Lib.hid (Nat.lt_of_lt_of_le a0_12_l.out z13)
      have u0_13 := Lib.hid (u0_12.out.other h13 (fun k hk e => by have := Lu0.out k hk; injection e with e; omega))
      have u1_13 := Lib.hid (u1_12.out.other h13 (fun k hk e => by have := Lu1.out k hk; injection e with e; omega))
      have ub0_13 := Lib.hid ((h13.block _ ub0_12_l.out (fun e => by injection e with e; omega)).trans ub0_12.out)
      have ub0_13_l := Lib.hid (Nat.lt_of_lt_of_le ub0_12_l.out z13)
      have ub1_13 := Lib.hid ((h13.block _ ub1_12_l.out (fun e => by injection e with e; omega)).trans ub1_12.out)
      have ub1_13_l := Lib.hid (Nat.lt_of_lt_of_le ub1_12_l.out z13)
      have y0_13 := Lib.hid ((h13.block _ y0_12_l.out (fun e => by injection e with e; omega)).trans y0_12.out)
      have y0_13_l := Lib.hid (Nat.lt_of_lt_of_le y0_12_l.out z13)
      have t0_13 := Lib.hid (t0_12.out.other h13 (fun k hk e => by have := Lt0.out k hk; injection e with e; omega))
      have t1_13 := Lib.hid (t1_12.out.other h13 (fun k hk e => by have := Lt1.out k hk; injection e with e; omega))
      have tb0_13 := Lib.hid ((h13.block _ tb0_12_l.out (fun e => by injection e with e; omega)).trans tb0_12.out)
      have tb0_13_l := Lib.hid (Nat.lt_of_lt_of_le tb0_12_l.out z13)
      have tb1_13 := Lib.hid ((h13.block _ tb1_12_l.out (fun e => by injection e with e; omega)).trans tb1_12.out)
      have tb1_13_l := Lib.hid (Nat.lt_of_lt_of_le tb1_12_l.out z13)
      generalize hkk : 1 + 9 * (r0.ps.length : Int) = kk
      have kl : 0 ≤ kk := by omega
      clear hkk
      have kd : decide (kk < 0) = false := by simp; omega
      have kd2 : ¬ (kk < 0) := by omega
      have q_tb0_0 := cell_of_row w13 _ 0 _ _ _ tb0_13.out
      have q_tb0_1 := cell_of_row w13 _ 1 _ _ _ tb0_13.out
      simp only [List.getElem?_toArray, List.getElem?_cons_zero, List.getElem?_cons_succ] at q_tb0_0 q_tb0_1
      have q_ub0_0 := cell_of_row w13 _ 0 _ _ _ ub0_13.out
      have q_ub0_1 := cell_of_row w13 _ 1 _ _ _ ub0_13.out
      simp only [List.getElem?_toArray, List.getElem?_cons_zero, List.getElem?_cons_succ] at q_ub0_0 q_ub0_1
      go_wp2_with fail
      refine (eqRack_same ⟨n1, l1⟩ _ _ _ t0_13.out.slice u0_13.out.slice LM0.out).mono ?_
      rintro e w14 ⟨rfl, h14⟩
      have z14 := h14.size
      clear q_tb0_0 q_tb0_1 q_ub0_0 q_ub0_1
      have B14 := Lib.hid (bnext B13.out h14)
      have zb14 := B14.out.size
      have a0_14 := Lib.hid ((h14.block _ a0_13_l.out).trans a0_13.out)
      have a0_14_l := Lib.hid (Nat.lt_of_lt_of_le a0_13_l.out z14)
      have u0_14 := Lib.hid (u0_13.out.below h14)
      have u1_14 := Lib.hid (u1_13.out.below h14)
      have ub0_14 := Lib.hid ((h14.block _ ub0_13_l.out).trans ub0_13.out)
      have ub0_14_l := Lib.hid (Nat.lt_of_lt_of_le ub0_13_l.out z14)
      have ub1_14 := Lib.hid ((h14.block _ ub1_13_l.out).trans ub1_13.out)
      have ub1_14_l := Lib.hid (Nat.lt_of_lt_of_le ub1_13_l.out z14)
      have y0_14 := Lib.hid ((h14.block _ y0_13_l.out).trans y0_13.out)
      have y0_14_l := Lib.hid (Nat.lt_of_lt_of_le y0_13_l.out z14)
      have t0_14 := Lib.hid (t0_13.out.below h14)
      have t1_14 := Lib.hid (t1_13.out.below h14)
      have tb0_14 := Lib.hid ((h14.block _ tb0_13_l.out).trans tb0_13.out)
      have tb0_14_l := Lib.hid (Nat.lt_of_lt_of_le tb0_13_l.out z14)
      have tb1_14 := Lib.hid ((h14.block _ tb1_13_l.out).trans tb1_13.out)
      have tb1_14_l := Lib.hid (Nat.lt_of_lt_of_le tb1_13_l.out z14)
      have q_tb1_0 := cell_of_row w14 _ 0 _ _ _ tb1_14.out
      have q_tb1_1 := cell_of_row w14 _ 1 _ _ _ tb1_14.out
      simp only [List.getElem?_toArray, List.getElem?_cons_zero, List.getElem?_cons_succ] at q_tb1_0 q_tb1_1
      have q_ub1_0 := cell_of_row w14 _ 0 _ _ _ ub1_14.out
      have q_ub1_1 := cell_of_row w14 _ 1 _ _ _ ub1_14.out
      simp only [List.getElem?_toArray, List.getElem?_cons_zero, List.getElem?_cons_succ] at q_ub1_0 q_ub1_1
      go_wp2_with fail
      refine (eqRack_same ⟨n2, l2⟩ _ _ _ t1_14.out.slice u1_14.out.slice LM1.out).mono ?_
      rintro e w15 ⟨rfl, h15⟩
      have z15 := h15.size
      clear q_tb1_0 q_tb1_1 q_ub1_0 q_ub1_1
      have B15 := Lib.hid (bnext B14.out h15)
      have zb15 := B15.out.size
      have a0_15 := Lib.hid ((h15.block _ a0_14_l.out).trans a0_14.out)
      have a0_15_l := Lib.hid (Nat.lt_of_lt_of_le a0_14_l.out z15)
      have u0_15 := Lib.hid (u0_14.out.below h15)
      have u1_15 := Lib.hid (u1_14.out.below h15)
      have ub0_15 := Lib.hid ((h15.block _ ub0_14_l.out).trans ub0_14.out)
      have ub0_15_l := Lib.hid (Nat.lt_of_lt_of_le ub0_14_l.out z15)
      have ub1_15 := Lib.hid ((h15.block _ ub1_14_l.out).trans ub1_14.out)
      have ub1_15_l := Lib.hid (Nat.lt_of_lt_of_le ub1_14_l.out z15)
      have y0_15 := Lib.hid ((h15.block _ y0_14_l.out).trans y0_14.out)
      have y0_15_l := Lib.hid (Nat.lt_of_lt_of_le y0_14_l.out z15)
      have t0_15 := Lib.hid (t0_14.out.below h15)
      have t1_15 := Lib.hid (t1_14.out.below h15)
      have tb0_15 := Lib.hid ((h15.block _ tb0_14_l.out).trans tb0_14.out)
      have tb0_15_l := Lib.hid (Nat.lt_of_lt_of_le tb0_14_l.out z15)
      have tb1_15 := Lib.hid ((h15.block _ tb1_14_l.out).trans tb1_14.out)
      have tb1_15_l := Lib.hid (Nat.lt_of_lt_of_le tb1_14_l.out z15)
      clear kd kd2
      have q_tb0_0 := cell_of_row w15 _ 0 _ _ _ tb0_15.out
      have q_tb0_1 := cell_of_row w15 _ 1 _ _ _ tb0_15.out
      simp only [List.getElem?_toArray, List.getElem?_cons_zero, List.getElem?_cons_succ] at q_tb0_0 q_tb0_1
      go_wp2_with fail
      refine (markRack_any n1 (.slice At0 l1.length kt0) l1 _ 1 _ t0_15.out LR0.out (by omega) (by omega)).mono ?_
      rintro e w16 ⟨rfl, hm0, h16⟩
      have z16 := h16.size
      have M0 := Lib.hid hm0
      clear hm0
      clear q_tb0_0 q_tb0_1
      have B16 := Lib.hid (B15.out.grown h16 B15.out.size (fun k hk => by have := Lt0.out k hk; omega))
      have zb16 := B16.out.size
      have a0_16 := Lib.hid ((h16.block _ a0_15_l.out (fun e => by have := Lt0.out _ e.symm; omega)).trans a0_15.out)
      have a0_16_l := Lib.hid (Nat.lt_of_lt_of_le a0_15_l.out z16)
      have u0_16 := Lib.hid (u0_15.out.other h16 (fun k hk e => by have := Lu0.out k hk; have := Lt0.out k e.symm; omega))
      have u1_16 := Lib.hid (u1_15.out.other h16 (fun k hk e => by have := Lu1.out k hk; have := Lt0.out k e.symm; omega))
      have ub0_16 := Lib.hid ((h16.block _ ub0_15_l.out (fun e => by have := Lt0.out _ e.symm; omega)).trans ub0_15.out)
      have ub0_16_l := Lib.hid (Nat.lt_of_lt_of_le ub0_15_l.out z16)
      have ub1_16 := Lib.hid ((h16.block _ ub1_15_l.out (fun e => by have := Lt0.out _ e.symm; omega)).trans ub1_15.out)
      have ub1_16_l := Lib.hid (Nat.lt_of_lt_of_le ub1_15_l.out z16)
      have y0_16 := Lib.hid ((h16.block _ y0_15_l.out (fun e => by have := Lt0.out _ e.symm; omega)).trans y0_15.out)
      have y0_16_l := Lib.hid (Nat.lt_of_lt_of_le y0_15_l.out z16)
      have t1_16 := Lib.hid (t1_15.out.other h16 (fun k hk e => APt.out k e.symm hk))
      have tb0_16 := Lib.hid ((h16.block _ tb0_15_l.out (fun e => by have := Lt0.out _ e.symm; omega)).trans tb0_15.out)
      have tb0_16_l := Lib.hid (Nat.lt_of_lt_of_le tb0_15_l.out z16)
      have tb1_16 := Lib.hid ((h16.block _ tb1_15_l.out (fun e => by have := Lt0.out _ e.symm; omega)).trans tb1_15.out)
      have tb1_16_l := Lib.hid (Nat.lt_of_lt_of_le tb1_15_l.out z16)
      generalize hmm0 : 1 + 9 * (l1.length : Int) = mm0 at *
      have HM0 := Lib.hid hmm0
      have ml0 : 0 ≤ mm0 := by omega
      have mu0 : mm0 ≤ 9500000 := by omega
      clear hmm0
      have q_tb1_0 := cell_of_row w16 _ 0 _ _ _ tb1_16.out
      have q_tb1_1 := cell_of_row w16 _ 1 _ _ _ tb1_16.out
      simp only [List.getElem?_toArray, List.getElem?_cons_zero, List.getElem?_cons_succ] at q_tb1_0 q_tb1_1
      go_wp2_with fail
      refine (markRack_any n2 (.slice At1 l2.length kt1) l2 _ mm0 _ t1_16.out LR1.out (by omega) (by omega)).mono ?_
      rintro e w17 ⟨rfl, hm1, h17⟩
      have z17 := h17.size
      have M1 := Lib.hid hm1
      clear hm1
      clear q_tb1_0 q_tb1_1
      have B17 := Lib.hid (B16.out.grown h17 B16.out.size (fun k hk => by have := Lt1.out k hk; omega))
      have zb17 := B17.out.size
      have a0_17 := Lib.hid ((h17.block _ a0_16_l.out (fun e => by have := Lt1.out _ e.symm; omega)).trans a0_16.out)
      have a0_17_l := Lib.hid (Nat.lt_of_lt_of_le a0_16_l.out z17)
      have u0_17 := Lib.hid (u0_16.out.other h17 (fun k hk e => by have := Lu0.out k hk; have := Lt1.out k e.symm; omega))
      have u1_17 := Lib.hid (u1_16.out.other h17 (fun k hk e => by have := Lu1.out k hk; have := Lt1.out k e.symm; omega))
      have ub0_17 := Lib.hid ((h17.block _ ub0_16_l.out (fun e => by have := Lt1.out _ e.symm; omega)).trans ub0_16.out)
      have ub0_17_l := Lib.hid (Nat.lt_of_lt_of_le ub0_16_l.out z17)
      have ub1_17 := Lib.hid ((h17.block _ ub1_16_l.out (fun e => by have := Lt1.out _ e.symm; omega)).trans ub1_16.out)
      have ub1_17_l := Lib.hid (Nat.lt_of_lt_of_le ub1_16_l.out z17)
      have y0_17 := Lib.hid ((h17.block _ y0_16_l.out (fun e => by have := Lt1.out _ e.symm; omega)).trans y0_16.out)
      have y0_17_l := Lib.hid (Nat.lt_of_lt_of_le y0_16_l.out z17)
      have tb0_17 := Lib.hid ((h17.block _ tb0_16_l.out (fun e => by have := Lt1.out _ e.symm; omega)).trans tb0_16.out)
      have tb0_17_l := Lib.hid (Nat.lt_of_lt_of_le tb0_16_l.out z17)
      have tb1_17 := Lib.hid ((h17.block _ tb1_16_l.out (fun e => by have := Lt1.out _ e.symm; omega)).trans tb1_16.out)
      have tb1_17_l := Lib.hid (Nat.lt_of_lt_of_le tb1_16_l.out z17)
      have m0_17 := Lib.hid (M0.out.other h17 (fun k hk e => APt.out k hk e.symm))
      generalize hmm1 : mm0 + 9 * (l2.length : Int) = mm1 at *
      have HM1 := Lib.hid hmm1
      have ml1 : 0 ≤ mm1 := by omega
      have mu1 : mm1 ≤ 19000000 := by omega
      clear hmm1
      have kd0 : decide (mm0 < 0) = false := by simp; omega
      have ke0 : ¬ (mm0 < 0) := by omega
      have kd1 : decide (mm1 < 0) = false := by simp; omega
      have ke1 : ¬ (mm1 < 0) := by omega
      have q_tb0_0 := cell_of_row w17 _ 0 _ _ _ tb0_17.out
      have q_tb0_1 := cell_of_row w17 _ 1 _ _ _ tb0_17.out
      simp only [List.getElem?_toArray, List.getElem?_cons_zero, List.getElem?_cons_succ] at q_tb0_0 q_tb0_1
      go_wp2_with fail
      refine (heldRack_any n1 (.slice At0 l1.length kt0) l1.length 1 _ LR0.out (by omega) (by omega) m0_17.out.slice).mono ?_
      rintro e w18 ⟨rfl, h18⟩
      have z18 := h18.size
      clear q_tb0_0 q_tb0_1
      have B18 := Lib.hid (bnext B17.out h18)
      have zb18 := B18.out.size
      have a0_18 := Lib.hid ((h18.block _ a0_17_l.out).trans a0_17.out)
      have a0_18_l := Lib.hid (Nat.lt_of_lt_of_le a0_17_l.out z18)
      have u0_18 := Lib.hid (u0_17.out.below h18)
      have u1_18 := Lib.hid (u1_17.out.below h18)
      have ub0_18 := Lib.hid ((h18.block _ ub0_17_l.out).trans ub0_17.out)
      have ub0_18_l := Lib.hid (Nat.lt_of_lt_of_le ub0_17_l.out z18)
      have ub1_18 := Lib.hid ((h18.block _ ub1_17_l.out).trans ub1_17.out)
      have ub1_18_l := Lib.hid (Nat.lt_of_lt_of_le ub1_17_l.out z18)
      have y0_18 := Lib.hid ((h18.block _ y0_17_l.out).trans y0_17.out)
      have y0_18_l := Lib.hid (Nat.lt_of_lt_of_le y0_17_l.out z18)
      have tb0_18 := Lib.hid ((h18.block _ tb0_17_l.out).trans tb0_17.out)
      have tb0_18_l := Lib.hid (Nat.lt_of_lt_of_le tb0_17_l.out z18)
      have tb1_18 := Lib.hid ((h18.block _ tb1_17_l.out).trans tb1_17.out)
      have tb1_18_l := Lib.hid (Nat.lt_of_lt_of_le tb1_17_l.out z18)
      have m0_18 := Lib.hid (m0_17.out.below h18)
      have m1_18 := Lib.hid (M1.out.below h18)
      rw [HM0.out]
      have q_tb1_0 := cell_of_row w18 _ 0 _ _ _ tb1_18.out
      have q_tb1_1 := cell_of_row w18 _ 1 _ _ _ tb1_18.out
      simp only [List.getElem?_toArray, List.getElem?_cons_zero, List.getElem?_cons_succ] at q_tb1_0 q_tb1_1
      go_wp2_with fail
      refine (heldRack_any n2 (.slice At1 l2.length kt1) l2.length mm0 _ LR1.out (by omega) (by omega) m1_18.out.slice).mono ?_
      rintro e w19 ⟨rfl, h19⟩
      have z19 := h19.size
      clear q_tb1_0 q_tb1_1
      have B19 := Lib.hid (bnext B18.out h19)
      have zb19 := B19.out.size
      have a0_19 := Lib.hid ((h19.block _ a0_18_l.out).trans a0_18.out)
      have a0_19_l := Lib.hid (Nat.lt_of_lt_of_le a0_18_l.out z19)
      have u0_19 := Lib.hid (u0_18.out.below h19)
      have u1_19 := Lib.hid (u1_18.out.below h19)
      have ub0_19 := Lib.hid ((h19.block _ ub0_18_l.out).trans ub0_18.out)
      have ub0_19_l := Lib.hid (Nat.lt_of_lt_of_le ub0_18_l.out z19)
      have ub1_19 := Lib.hid ((h19.block _ ub1_18_l.out).trans ub1_18.out)
      have ub1_19_l := Lib.hid (Nat.lt_of_lt_of_le ub1_18_l.out z19)
      have y0_19 := Lib.hid ((h19.block _ y0_18_l.out).trans y0_18.out)
      have y0_19_l := Lib.hid (Nat.lt_of_lt_of_le y0_18_l.out z19)
      have tb0_19 := Lib.hid ((h19.block _ tb0_18_l.out).trans tb0_18.out)
      have tb0_19_l := Lib.hid (Nat.lt_of_lt_of_le tb0_18_l.out z19)
      have tb1_19 := Lib.hid ((h19.block _ tb1_18_l.out).trans tb1_18.out)
      have tb1_19_l := Lib.hid (Nat.lt_of_lt_of_le tb1_18_l.out z19)
      have m0_19 := Lib.hid (m0_18.out.below h19)
      have m1_19 := Lib.hid (m1_18.out.below h19)
      rw [HM1.out]
      have q_a0_0 := cell_of_row w19 _ 0 _ _ _ a0_19.out
      have q_a0_1 := cell_of_row w19 _ 1 _ _ _ a0_19.out
      simp only [List.getElem?_toArray, List.getElem?_cons_zero, List.getElem?_cons_succ] at q_a0_0 q_a0_1
      go_wp2_with fail
      refine (toRack_any r0 _ _ (SL0.out.below B19.out) hn0).mono ?_
      rintro e w20 ⟨g2, rfl, lo2, hr2, h20⟩
      have z20 := h20.size
      clear q_a0_0 q_a0_1
      have B20 := Lib.hid (bnext B19.out h20)
      have zb20 := B20.out.size
      have a0_20 := Lib.hid ((h20.block _ a0_19_l.out).trans a0_19.out)
      have a0_20_l := Lib.hid (Nat.lt_of_lt_of_le a0_19_l.out z20)
      have u0_20 := Lib.hid (u0_19.out.below h20)
      have u1_20 := Lib.hid (u1_19.out.below h20)
      have ub0_20 := Lib.hid ((h20.block _ ub0_19_l.out).trans ub0_19.out)
      have ub0_20_l := Lib.hid (Nat.lt_of_lt_of_le ub0_19_l.out z20)
      have ub1_20 := Lib.hid ((h20.block _ ub1_19_l.out).trans ub1_19.out)
      have ub1_20_l := Lib.hid (Nat.lt_of_lt_of_le ub1_19_l.out z20)
      have y0_20 := Lib.hid ((h20.block _ y0_19_l.out).trans y0_19.out)
      have y0_20_l := Lib.hid (Nat.lt_of_lt_of_le y0_19_l.out z20)
      have tb0_20 := Lib.hid ((h20.block _ tb0_19_l.out).trans tb0_19.out)
      have tb0_20_l := Lib.hid (Nat.lt_of_lt_of_le tb0_19_l.out z20)
      have tb1_20 := Lib.hid ((h20.block _ tb1_19_l.out).trans tb1_19.out)
      have tb1_20_l := Lib.hid (Nat.lt_of_lt_of_le tb1_19_l.out z20)
      have m0_20 := Lib.hid (m0_19.out.below h20)
      have m1_20 := Lib.hid (m1_19.out.below h20)
      have P2 := Lib.hid hr2
      have hi2 := hr2.lt
      clear hr2
      go_wp2_with fail
      refine (IM.out _ _ (HE.out.below B20.out) (RowN.slice P2.out) hn0).mono ?_
      rintro e w21 ⟨Av0, kv0, Av1, kv1, rfl, hv0, hv1, apv, h21⟩
      have z21 := h21.size
      have B21 := Lib.hid (bnext B20.out h21)
      have zb21 := B21.out.size
      have a0_21 := Lib.hid ((h21.block _ a0_20_l.out).trans a0_20.out)
      have a0_21_l := Lib.hid (Nat.lt_of_lt_of_le a0_20_l.out z21)
      have u0_21 := Lib.hid (u0_20.out.below h21)
      have u1_21 := Lib.hid (u1_20.out.below h21)
      have ub0_21 := Lib.hid ((h21.block _ ub0_20_l.out).trans ub0_20.out)
      have ub0_21_l := Lib.hid (Nat.lt_of_lt_of_le ub0_20_l.out z21)
      have ub1_21 := Lib.hid ((h21.block _ ub1_20_l.out).trans ub1_20.out)
      have ub1_21_l := Lib.hid (Nat.lt_of_lt_of_le ub1_20_l.out z21)
      have y0_21 := Lib.hid ((h21.block _ y0_20_l.out).trans y0_20.out)
      have y0_21_l := Lib.hid (Nat.lt_of_lt_of_le y0_20_l.out z21)
      have tb0_21 := Lib.hid ((h21.block _ tb0_20_l.out).trans tb0_20.out)
      have tb0_21_l := Lib.hid (Nat.lt_of_lt_of_le tb0_20_l.out z21)
      have tb1_21 := Lib.hid ((h21.block _ tb1_20_l.out).trans tb1_20.out)
      have tb1_21_l := Lib.hid (Nat.lt_of_lt_of_le tb1_20_l.out z21)
      have m0_21 := Lib.hid (m0_20.out.below h21)
      have m1_21 := Lib.hid (m1_20.out.below h21)
      have p0_21 := Lib.hid (P2.out.below h21 P2.out.lt)
      have Fv0 := Lib.hid hv0
      have Lv0 := Lib.hid Fv0.out.lt
      clear hv0
      have Fv1 := Lib.hid hv1
      have Lv1 := Lib.hid Fv1.out.lt
      clear hv1
      have APv := Lib.hid apv
      clear apv
      have h22 : Below w21.heap.size w21 (World.alloc (World.alloc w21 (.cells #[.int .i16 n1, (.slice Av0 l1.length kv0)] 41)) (.cells #[.int .i16 n2, (.slice Av1 l2.length kv1)] 41)) := (((Below.refl w21.heap.size w21).alloc (Nat.le_refl _) (.cells #[.int .i16 n1, (.slice Av0 l1.length kv0)] 41)).alloc (by simp) (.cells #[.int .i16 n2, (.slice Av1 l2.length kv1)] 41))
      have X22_0 := Lib.hid (show (World.alloc (World.alloc w21 (.cells #[.int .i16 n1, (.slice Av0 l1.length kv0)] 41)) (.cells #[.int .i16 n2, (.slice Av1 l2.length kv1)] 41)).heap[w21.heap.size]? = some (.cells #[.int .i16 n1, (.slice Av0 l1.length kv0)] 41 (0, 0)) from (Below.heap_alloc _ _ _ (by simp)).trans (heap_alloc_new w21 (.cells #[.int .i16 n1, (.slice Av0 l1.length kv0)] 41)))
      have Y22_0 := Lib.hid ((Array.getElem?_eq_some_iff.1 X22_0.out).1)
      have X22_1 := Lib.hid (show (World.alloc (World.alloc w21 (.cells #[.int .i16 n1, (.slice Av0 l1.length kv0)] 41)) (.cells #[.int .i16 n2, (.slice Av1 l2.length kv1)] 41)).heap[w21.heap.size + 1]? = some (.cells #[.int .i16 n2, (.slice Av1 l2.length kv1)] 41 (0, 0)) from by
        have hh := heap_alloc_new (World.alloc w21 (.cells #[.int .i16 n1, (.slice Av0 l1.length kv0)] 41)) (.cells #[.int .i16 n2, (.slice Av1 l2.length kv1)] 41)
        rw [World.size_alloc] at hh
        exact hh)
      have Y22_1 := Lib.hid ((Array.getElem?_eq_some_iff.1 X22_1.out).1)
      go_upto_region 29 with (fail)
      generalize World.alloc (World.alloc w21 _) _ = w22 at h22 X22_0 Y22_0 X22_1 Y22_1 ⊢
      have z22 := h22.size
      have B22 := Lib.hid (bnext B21.out h22)
      have zb22 := B22.out.size
      have a0_22 := Lib.hid ((h22.block _ a0_21_l.out).trans a0_21.out)
      have a0_22_l := Lib.hid (Nat.lt_of_lt_of_le a0_21_l.out z22)
      have u0_22 := Lib.hid (u0_21.out.below h22)
      have u1_22 := Lib.hid (u1_21.out.below h22)
      have ub0_22 := Lib.hid ((h22.block _ ub0_21_l.out).trans ub0_21.out)
      have ub0_22_l := Lib.hid (Nat.lt_of_lt_of_le ub0_21_l.out z22)
      have ub1_22 := Lib.hid ((h22.block _ ub1_21_l.out).trans ub1_21.out)
      have ub1_22_l := Lib.hid (Nat.lt_of_lt_of_le ub1_21_l.out z22)
      have y0_22 := Lib.hid ((h22.block _ y0_21_l.out).trans y0_21.out)
      have y0_22_l := Lib.hid (Nat.lt_of_lt_of_le y0_21_l.out z22)
      have tb0_22 := Lib.hid ((h22.block _ tb0_21_l.out).trans tb0_21.out)
      have tb0_22_l := Lib.hid (Nat.lt_of_lt_of_le tb0_21_l.out z22)
      have tb1_22 := Lib.hid ((h22.block _ tb1_21_l.out).trans tb1_21.out)
      have tb1_22_l := Lib.hid (Nat.lt_of_lt_of_le tb1_21_l.out z22)
      have m0_22 := Lib.hid (m0_21.out.below h22)
      have m1_22 := Lib.hid (m1_21.out.below h22)
      have v0_22 := Lib.hid (Fv0.out.below h22)
      have v1_22 := Lib.hid (Fv1.out.below h22)
      have yy22_0 := Y22_0.out
      have yy22_1 := Y22_1.out
      have q_vb0_0 := cell_of_row w22 _ 0 _ _ _ X22_0.out
      have q_vb0_1 := cell_of_row w22 _ 1 _ _ _ X22_0.out
      simp only [List.getElem?_toArray, List.getElem?_cons_zero, List.getElem?_cons_succ] at q_vb0_0 q_vb0_1
      have q_ub0_0 := cell_of_row w22 _ 0 _ _ _ ub0_22.out
      have q_ub0_1 := cell_of_row w22 _ 1 _ _ _ ub0_22.out
      simp only [List.getElem?_toArray, List.getElem?_cons_zero, List.getElem?_cons_succ] at q_ub0_0 q_ub0_1
      go_wp2_with fail
      refine (eqRack_same ⟨n1, l1⟩ _ _ _ v0_22.out.slice u0_22.out.slice LM0.out).mono ?_
      rintro e w23 ⟨rfl, h23⟩
      have z23 := h23.size
      clear q_vb0_0 q_vb0_1 q_ub0_0 q_ub0_1
      have B23 := Lib.hid (bnext B22.out h23)
      have zb23 := B23.out.size
      have a0_23 := Lib.hid ((h23.block _ a0_22_l.out).trans a0_22.out)
      have a0_23_l := Lib.hid (Nat.lt_of_lt_of_le a0_22_l.out z23)
      have u0_23 := Lib.hid (u0_22.out.below h23)
      have u1_23 := Lib.hid (u1_22.out.below h23)
      have ub0_23 := Lib.hid ((h23.block _ ub0_22_l.out).trans ub0_22.out)
      have ub0_23_l := Lib.hid (Nat.lt_of_lt_of_le ub0_22_l.out z23)
      have ub1_23 := Lib.hid ((h23.block _ ub1_22_l.out).trans ub1_22.out)
      have ub1_23_l := Lib.hid (Nat.lt_of_lt_of_le ub1_22_l.out z23)
      have y0_23 := Lib.hid ((h23.block _ y0_22_l.out).trans y0_22.out)
      have y0_23_l := Lib.hid (Nat.lt_of_lt_of_le y0_22_l.out z23)
      have tb0_23 := Lib.hid ((h23.block _ tb0_22_l.out).trans tb0_22.out)
      have tb0_23_l := Lib.hid (Nat.lt_of_lt_of_le tb0_22_l.out z23)
      have tb1_23 := Lib.hid ((h23.block _ tb1_22_l.out).trans tb1_22.out)
      have tb1_23_l := Lib.hid (Nat.lt_of_lt_of_le tb1_22_l.out z23)
      have m0_23 := Lib.hid (m0_22.out.below h23)
      have m1_23 := Lib.hid (m1_22.out.below h23)
      have v0_23 := Lib.hid (v0_22.out.below h23)
      have v1_23 := Lib.hid (v1_22.out.below h23)
      have vb0_23 := Lib.hid ((h23.block _ Y22_0.out).trans X22_0.out)
      have vb0_23_l := Lib.hid (Nat.lt_of_lt_of_le Y22_0.out z23)
      have vb1_23 := Lib.hid ((h23.block _ Y22_1.out).trans X22_1.out)
      have vb1_23_l := Lib.hid (Nat.lt_of_lt_of_le Y22_1.out z23)
      have q_vb1_0 := cell_of_row w23 _ 0 _ _ _ vb1_23.out
      have q_vb1_1 := cell_of_row w23 _ 1 _ _ _ vb1_23.out
      simp only [List.getElem?_toArray, List.getElem?_cons_zero, List.getElem?_cons_succ] at q_vb1_0 q_vb1_1
      have q_ub1_0 := cell_of_row w23 _ 0 _ _ _ ub1_23.out
      have q_ub1_1 := cell_of_row w23 _ 1 _ _ _ ub1_23.out
      simp only [List.getElem?_toArray, List.getElem?_cons_zero, List.getElem?_cons_succ] at q_ub1_0 q_ub1_1
      go_wp2_with fail
      refine (eqRack_same ⟨n2, l2⟩ _ _ _ v1_23.out.slice u1_23.out.slice LM1.out).mono ?_
      rintro e w24 ⟨rfl, h24⟩
      have z24 := h24.size
      clear q_vb1_0 q_vb1_1 q_ub1_0 q_ub1_1
      have B24 := Lib.hid (bnext B23.out h24)
      have zb24 := B24.out.size
      have a0_24 := Lib.hid ((h24.block _ a0_23_l.out).trans a0_23.out)
      have a0_24_l := Lib.hid (Nat.lt_of_lt_of_le a0_23_l.out z24)
      have u0_24 := Lib.hid (u0_23.out.below h24)
      have u1_24 := Lib.hid (u1_23.out.below h24)
      have ub0_24 := Lib.hid ((h24.block _ ub0_23_l.out).trans ub0_23.out)
      have ub0_24_l := Lib.hid (Nat.lt_of_lt_of_le ub0_23_l.out z24)
      have ub1_24 := Lib.hid ((h24.block _ ub1_23_l.out).trans ub1_23.out)
      have ub1_24_l := Lib.hid (Nat.lt_of_lt_of_le ub1_23_l.out z24)
      have y0_24 := Lib.hid ((h24.block _ y0_23_l.out).trans y0_23.out)
      have y0_24_l := Lib.hid (Nat.lt_of_lt_of_le y0_23_l.out z24)
      have tb0_24 := Lib.hid ((h24.block _ tb0_23_l.out).trans tb0_23.out)
      have tb0_24_l := Lib.hid (Nat.lt_of_lt_of_le tb0_23_l.out z24)
      have tb1_24 := Lib.hid ((h24.block _ tb1_23_l.out).trans tb1_23.out)
      have tb1_24_l := Lib.hid (Nat.lt_of_lt_of_le tb1_23_l.out z24)
      have m0_24 := Lib.hid (m0_23.out.below h24)
      have m1_24 := Lib.hid (m1_23.out.below h24)
      have v0_24 := Lib.hid (v0_23.out.below h24)
      have v1_24 := Lib.hid (v1_23.out.below h24)
      have vb0_24 := Lib.hid ((h24.block _ vb0_23_l.out).trans vb0_23.out)
      have vb0_24_l := Lib.hid (Nat.lt_of_lt_of_le vb0_23_l.out z24)
      have vb1_24 := Lib.hid ((h24.block _ vb1_23_l.out).trans vb1_23.out)
      have vb1_24_l := Lib.hid (Nat.lt_of_lt_of_le vb1_23_l.out z24)
      have q_tb0_0 := cell_of_row w24 _ 0 _ _ _ tb0_24.out
      have q_tb0_1 := cell_of_row w24 _ 1 _ _ _ tb0_24.out
      simp only [List.getElem?_toArray, List.getElem?_cons_zero, List.getElem?_cons_succ] at q_tb0_0 q_tb0_1
      go_wp2_with fail
      refine (heldRack_any n1 (.slice At0 l1.length kt0) l1.length 1 _ LR0.out (by omega) (by omega) m0_24.out.slice).mono ?_
      rintro e w25 ⟨rfl, h25⟩
      have z25 := h25.size
      clear q_tb0_0 q_tb0_1
      have B25 := Lib.hid (bnext B24.out h25)
      have zb25 := B25.out.size
      have a0_25 := Lib.hid ((h25.block _ a0_24_l.out).trans a0_24.out)
      have a0_25_l := Lib.hid (Nat.lt_of_lt_of_le a0_24_l.out z25)
      have u0_25 := Lib.hid (u0_24.out.below h25)
      have u1_25 := Lib.hid (u1_24.out.below h25)
      have ub0_25 := Lib.hid ((h25.block _ ub0_24_l.out).trans ub0_24.out)
      have ub0_25_l := Lib.hid (Nat.lt_of_lt_of_le ub0_24_l.out z25)
      have ub1_25 := Lib.hid ((h25.block _ ub1_24_l.out).trans ub1_24.out)
      have ub1_25_l := Lib.hid (Nat.lt_of_lt_of_le ub1_24_l.out z25)
      have y0_25 := Lib.hid ((h25.block _ y0_24_l.out).trans y0_24.out)
      have y0_25_l := Lib.hid (Nat.lt_of_lt_of_le y0_24_l.out z25)
      have tb0_25 := Lib.hid ((h25.block _ tb0_24_l.out).trans tb0_24.out)
      have tb0_25_l := Lib.hid (Nat.lt_of_lt_of_le tb0_24_l.out z25)
      have tb1_25 := Lib.hid ((h25.block _ tb1_24_l.out).trans tb1_24.out)
      have tb1_25_l := Lib.hid (Nat.lt_of_lt_of_le tb1_24_l.out z25)
      have m0_25 := Lib.hid (m0_24.out.below h25)
      have m1_25 := Lib.hid (m1_24.out.below h25)
      have v0_25 := Lib.hid (v0_24.out.below h25)
      have v1_25 := Lib.hid (v1_24.out.below h25)
      have vb0_25 := Lib.hid ((h25.block _ vb0_24_l.out).trans vb0_24.out)
      have vb0_25_l := Lib.hid (Nat.lt_of_lt_of_le vb0_24_l.out z25)
      have vb1_25 := Lib.hid ((h25.block _ vb1_24_l.out).trans vb1_24.out)
      have vb1_25_l := Lib.hid (Nat.lt_of_lt_of_le vb1_24_l.out z25)
      rw [HM0.out]
      have q_tb1_0 := cell_of_row w25 _ 0 _ _ _ tb1_25.out
      have q_tb1_1 := cell_of_row w25 _ 1 _ _ _ tb1_25.out
      simp only [List.getElem?_toArray, List.getElem?_cons_zero, List.getElem?_cons_succ] at q_tb1_0 q_tb1_1
      go_wp2_with fail
      refine (heldRack_any n2 (.slice At1 l2.length kt1) l2.length mm0 _ LR1.out (by omega) (by omega) m1_25.out.slice).mono ?_
      rintro e w26 ⟨rfl, h26⟩
      have z26 := h26.size
      clear q_tb1_0 q_tb1_1
      have B26 := Lib.hid (bnext B25.out h26)
      have zb26 := B26.out.size
      have a0_26 := Lib.hid ((h26.block _ a0_25_l.out).trans a0_25.out)
      have a0_26_l := Lib.hid (Nat.lt_of_lt_of_le a0_25_l.out z26)
      have u0_26 := Lib.hid (u0_25.out.below h26)
      have u1_26 := Lib.hid (u1_25.out.below h26)
      have ub0_26 := Lib.hid ((h26.block _ ub0_25_l.out).trans ub0_25.out)
      have ub0_26_l := Lib.hid (Nat.lt_of_lt_of_le ub0_25_l.out z26)
      have ub1_26 := Lib.hid ((h26.block _ ub1_25_l.out).trans ub1_25.out)
      have ub1_26_l := Lib.hid (Nat.lt_of_lt_of_le ub1_25_l.out z26)
      have y0_26 := Lib.hid ((h26.block _ y0_25_l.out).trans y0_25.out)
      have y0_26_l := Lib.hid (Nat.lt_of_lt_of_le y0_25_l.out z26)
      have tb0_26 := Lib.hid ((h26.block _ tb0_25_l.out).trans tb0_25.out)
      have tb0_26_l := Lib.hid (Nat.lt_of_lt_of_le tb0_25_l.out z26)
      have tb1_26 := Lib.hid ((h26.block _ tb1_25_l.out).trans tb1_25.out)
      have tb1_26_l := Lib.hid (Nat.lt_of_lt_of_le tb1_25_l.out z26)
      have m0_26 := Lib.hid (m0_25.out.below h26)
      have m1_26 := Lib.hid (m1_25.out.below h26)
      have v0_26 := Lib.hid (v0_25.out.below h26)
      have v1_26 := Lib.hid (v1_25.out.below h26)
      have vb0_26 := Lib.hid ((h26.block _ vb0_25_l.out).trans vb0_25.out)
      have vb0_26_l := Lib.hid (Nat.lt_of_lt_of_le vb0_25_l.out z26)
      have vb1_26 := Lib.hid ((h26.block _ vb1_25_l.out).trans vb1_25.out)
      have vb1_26_l := Lib.hid (Nat.lt_of_lt_of_le vb1_25_l.out z26)
      rw [HM1.out]
      go_wp2
      go_ret
      exact ⟨rfl, B26.out⟩
  · skip
    have e0 : 1048576 - (r0.ps.length : Int) < 0 := by omega
    go_enter Tryd.func4, Tryd.ntmps4
    have h1 : Below w.heap.size w (World.alloc w (.cells #[.int .i16 r0.n, .slice A0 r0.ps.length k0] 37)) := ((Below.refl w.heap.size w).alloc (Nat.le_refl _) (.cells #[.int .i16 r0.n, .slice A0 r0.ps.length k0] 37))
    have X1_0 := Lib.hid (show (World.alloc w (.cells #[.int .i16 r0.n, .slice A0 r0.ps.length k0] 37)).heap[w.heap.size]? = some (.cells #[.int .i16 r0.n, .slice A0 r0.ps.length k0] 37 (0, 0)) from heap_alloc_new w (.cells #[.int .i16 r0.n, .slice A0 r0.ps.length k0] 37))
    have Y1_0 := Lib.hid ((Array.getElem?_eq_some_iff.1 X1_0.out).1)
    go_upto_region 1 with (fail)
    generalize World.alloc w _ = w1 at h1 X1_0 Y1_0 ⊢
    have z1 := h1.size
    have B1 := Lib.hid h1
    have zb1 := B1.out.size
    have yy1_0 := Y1_0.out
    have q_a0_0 := cell_of_row w1 _ 0 _ _ _ X1_0.out
    have q_a0_1 := cell_of_row w1 _ 1 _ _ _ X1_0.out
    simp only [List.getElem?_toArray, List.getElem?_cons_zero, List.getElem?_cons_succ] at q_a0_0 q_a0_1
    go_wp2_with fail
    refine (szRack_left r0 _ _ _ _ mx0 (by omega) (by omega)).mono ?_
    rintro e w2 ⟨rfl, h2⟩
    have z2 := h2.size
    clear q_a0_0 q_a0_1
    have B2 := Lib.hid (bnext B1.out h2)
    have zb2 := B2.out.size
    have a0_2 := Lib.hid ((h2.block _ Y1_0.out).trans X1_0.out)
    have a0_2_l := Lib.hid (Nat.lt_of_lt_of_le Y1_0.out z2)
    rw [if_neg (by omega)]
    go_wp2
    go_ret
    exact ⟨rfl, B2.out⟩
end Go.Proofs.YteeblpdjpaellaaDoor
