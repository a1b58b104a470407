/- The law of EmptyRack, walked. Condition: the three error variables hold three different errors of errors.New's make. -/
import Derived.Test.YtlphpajpjpohmaaDoorRkV
import Derived.Test.YtlphpajpjpohmaaDoorRk
import Derived.Deep.RegionHeld3
namespace Go.Proofs.YtlphpajpjpohmaaDoor
set_option linter.unusedSimpArgs false
set_option linter.unusedVariables false
set_option maxRecDepth 100000
open Go.RowKit

set_option maxHeartbeats 16000000 in
theorem walkEmptyRack (a0 : Int) (wf0 : (Lit.int .i64 a0).wf = true) (w : World) (s i y : Addr) (he : Errs w s i y)  :
    Calls Tryd.prog 12 #[.int .i64 a0] w fun e w' => e = .returned (.bool true) ∧ Below w.heap.size w w' := by
  have WI0 := Lib.hid wf0
  have HE := Lib.hid he
  clear wf0 he
  go_enter Tryd.func12, Tryd.ntmps12
  have LR0 := Lib.hid (show (frL a0 []).length ≤ 1048576 from Nat.le_trans (frL_len a0 []) (by simp))
  have LM0 := Lib.hid (show (frL a0 []).length ≤ maxLen from Nat.le_trans LR0.out (by unfold maxLen; omega))
  go_wp2_with fail
  refine (specEmptyRack_any a0 _).mono ?_
  rintro e w1 ⟨u0, rfl, hu0, h1⟩
  have z1 := h1.size
  have B1 := Lib.hid h1
  have zb1 := B1.out.size
  obtain ⟨Au0, nu0, ku0, rfl⟩ := hu0.form
  have Fu0 := Lib.hid hu0
  have Lu0 := Lib.hid Fu0.out.lt
  clear hu0
  have h2 := (Below.refl w1.heap.size w1).alloc (Nat.le_refl _) (.cells #[.int .i16 (frN a0 []), (.slice Au0 nu0 ku0)] 30)
  have X2 := Lib.hid (heap_alloc_new w1 (.cells #[.int .i16 (frN a0 []), (.slice Au0 nu0 ku0)] 30))
  have Y2 := Lib.hid (show w1.heap.size < (World.alloc w1 (.cells #[.int .i16 (frN a0 []), (.slice Au0 nu0 ku0)] 30)).heap.size by simp)
  go_wp2_with fail
  generalize World.alloc w1 _ = w2 at X2 h2 Y2 ⊢
  have z2 := h2.size
  have yy2 := Y2.out
  have B2 := Lib.hid (bnext B1.out h2)
  have zb2 := B2.out.size
  have u0_2 := Lib.hid (Fu0.out.below h2)
  refine (emptyRack_any a0 _ s i y (HE.out.below B2.out)).mono ?_
  rintro e w3 ⟨t0, rfl, ht0, h3⟩
  have z3 := h3.size
  have B3 := Lib.hid (bnext B2.out h3)
  have zb3 := B3.out.size
  have u0_3 := Lib.hid (u0_2.out.below h3)
  have ub0_3 := Lib.hid ((h3.block _ Y2.out).trans X2.out)
  have ub0_3_l := Lib.hid (Nat.lt_of_lt_of_le Y2.out z3)
  obtain ⟨At0, nt0, kt0, rfl⟩ := ht0.form
  have Ft0 := Lib.hid ht0
  have Lt0 := Lib.hid Ft0.out.lt
  clear ht0
  generalize hrc1 : frC a0 [] = rc1
  have HRC1 := Lib.hid hrc1
  clear hrc1
  have h4 := (Below.refl w3.heap.size w3).alloc (Nat.le_refl _) (.cells #[.int .i16 (frN a0 []), (.slice At0 nt0 kt0)] 30)
  have X4 := Lib.hid (heap_alloc_new w3 (.cells #[.int .i16 (frN a0 []), (.slice At0 nt0 kt0)] 30))
  have Y4 := Lib.hid (show w3.heap.size < (World.alloc w3 (.cells #[.int .i16 (frN a0 []), (.slice At0 nt0 kt0)] 30)).heap.size by simp)
  have q_u_0 := (h4.cell (p := ⟨_, 0, none⟩) ub0_3_l.out).trans (cell_of_row w3 _ 0 _ _ _ ub0_3.out)
  have q_u_1 := (h4.cell (p := ⟨_, 1, none⟩) ub0_3_l.out).trans (cell_of_row w3 _ 1 _ _ _ ub0_3.out)
  have qp_u_0 := cell_of_row w3 _ 0 _ _ _ ub0_3.out
  have qp_u_1 := cell_of_row w3 _ 1 _ _ _ ub0_3.out
  have ql_u := ub0_3_l.out
  simp only [List.getElem?_toArray, List.getElem?_cons_zero, List.getElem?_cons_succ] at q_u_0 q_u_1 qp_u_0 qp_u_1
  go_wp2_with fail
  generalize World.alloc w3 _ = w4 at X4 h4 Y4 ⊢
  have z4 := h4.size
  have yy4 := Y4.out
  have B4 := Lib.hid (bnext B3.out h4)
  have zb4 := B4.out.size
  have u0_4 := Lib.hid (u0_3.out.below h4)
  have ub0_4 := Lib.hid ((h4.block _ ub0_3_l.out).trans ub0_3.out)
  have ub0_4_l := Lib.hid (Nat.lt_of_lt_of_le ub0_3_l.out z4)
  have t0_4 := Lib.hid (Ft0.out.below h4)
  refine (eqRack_same ⟨frN a0 [], frL a0 []⟩ _ _ _ t0_4.out.slice u0_4.out.slice LM0.out).mono ?_
  rintro e w5 ⟨rfl, h5⟩
  have z5 := h5.size
  clear q_u_0 q_u_1 qp_u_0 qp_u_1 ql_u
  have B5 := Lib.hid (bnext B4.out h5)
  have zb5 := B5.out.size
  have u0_5 := Lib.hid (u0_4.out.below h5)
  have ub0_5 := Lib.hid ((h5.block _ ub0_4_l.out).trans ub0_4.out)
  have ub0_5_l := Lib.hid (Nat.lt_of_lt_of_le ub0_4_l.out z5)
  have t0_5 := Lib.hid (t0_4.out.below h5)
  have tb0_5 := Lib.hid ((h5.block _ Y4.out).trans X4.out)
  have tb0_5_l := Lib.hid (Nat.lt_of_lt_of_le Y4.out z5)
  have q_tb0_0 := cell_of_row w5 _ 0 _ _ _ tb0_5.out
  have q_tb0_1 := cell_of_row w5 _ 1 _ _ _ tb0_5.out
  simp only [List.getElem?_toArray, List.getElem?_cons_zero, List.getElem?_cons_succ] at q_tb0_0 q_tb0_1
  go_wp2_with fail
  refine (markRack_any (frN a0 []) (.slice At0 nt0 kt0) (frL a0 []) _ 1 _ t0_5.out LR0.out (by omega) (by omega)).mono ?_
  rintro e w6 ⟨rfl, hm0, h6⟩
  have z6 := h6.size
  have M0 := Lib.hid hm0
  clear hm0
  clear q_tb0_0 q_tb0_1
  have B6 := Lib.hid (B5.out.grown h6 B5.out.size (fun k hk => by have := Lt0.out k hk; omega))
  have zb6 := B6.out.size
  have u0_6 := Lib.hid (u0_5.out.other h6 (fun k hk e => by have := Lu0.out k hk; have := Lt0.out k e.symm; omega))
  have ub0_6 := Lib.hid ((h6.block _ ub0_5_l.out (fun e => by have := Lt0.out _ e.symm; omega)).trans ub0_5.out)
  have ub0_6_l := Lib.hid (Nat.lt_of_lt_of_le ub0_5_l.out z6)
  have tb0_6 := Lib.hid ((h6.block _ tb0_5_l.out (fun e => by have := Lt0.out _ e.symm; omega)).trans tb0_5.out)
  have tb0_6_l := Lib.hid (Nat.lt_of_lt_of_le tb0_5_l.out z6)
  have q_tb0_0 := cell_of_row w6 _ 0 _ _ _ tb0_6.out
  have q_tb0_1 := cell_of_row w6 _ 1 _ _ _ tb0_6.out
  simp only [List.getElem?_toArray, List.getElem?_cons_zero, List.getElem?_cons_succ] at q_tb0_0 q_tb0_1
  go_wp2_with fail
  refine (heldRack_any (frN a0 []) (.slice At0 nt0 kt0) (frL a0 []).length 1 _ LR0.out (by omega) (by omega) M0.out.slice).mono ?_
  rintro e w7 ⟨rfl, h7⟩
  have z7 := h7.size
  clear q_tb0_0 q_tb0_1
  have B7 := Lib.hid (bnext B6.out h7)
  have zb7 := B7.out.size
  have u0_7 := Lib.hid (u0_6.out.below h7)
  have ub0_7 := Lib.hid ((h7.block _ ub0_6_l.out).trans ub0_6.out)
  have ub0_7_l := Lib.hid (Nat.lt_of_lt_of_le ub0_6_l.out z7)
  have tb0_7 := Lib.hid ((h7.block _ tb0_6_l.out).trans tb0_6.out)
  have tb0_7_l := Lib.hid (Nat.lt_of_lt_of_le tb0_6_l.out z7)
  have m0_7 := Lib.hid (M0.out.below h7)
  go_wp2_with fail
  refine (emptyRack_any a0 _ s i y (HE.out.below B7.out)).mono ?_
  rintro e w8 ⟨v0, rfl, hv0, h8⟩
  have z8 := h8.size
  have B8 := Lib.hid (bnext B7.out h8)
  have zb8 := B8.out.size
  have u0_8 := Lib.hid (u0_7.out.below h8)
  have ub0_8 := Lib.hid ((h8.block _ ub0_7_l.out).trans ub0_7.out)
  have ub0_8_l := Lib.hid (Nat.lt_of_lt_of_le ub0_7_l.out z8)
  have tb0_8 := Lib.hid ((h8.block _ tb0_7_l.out).trans tb0_7.out)
  have tb0_8_l := Lib.hid (Nat.lt_of_lt_of_le tb0_7_l.out z8)
  have m0_8 := Lib.hid (m0_7.out.below h8)
  obtain ⟨Av0, nv0, kv0, rfl⟩ := hv0.form
  have Fv0 := Lib.hid hv0
  have Lv0 := Lib.hid Fv0.out.lt
  clear hv0
  rw [HRC1.out]
  have h9 := (Below.refl w8.heap.size w8).alloc (Nat.le_refl _) (.cells #[.int .i16 (frN a0 []), (.slice Av0 nv0 kv0)] 30)
  have X9 := Lib.hid (heap_alloc_new w8 (.cells #[.int .i16 (frN a0 []), (.slice Av0 nv0 kv0)] 30))
  have Y9 := Lib.hid (show w8.heap.size < (World.alloc w8 (.cells #[.int .i16 (frN a0 []), (.slice Av0 nv0 kv0)] 30)).heap.size by simp)
  have q_u_0 := (h9.cell (p := ⟨_, 0, none⟩) ub0_8_l.out).trans (cell_of_row w8 _ 0 _ _ _ ub0_8.out)
  have q_u_1 := (h9.cell (p := ⟨_, 1, none⟩) ub0_8_l.out).trans (cell_of_row w8 _ 1 _ _ _ ub0_8.out)
  have qp_u_0 := cell_of_row w8 _ 0 _ _ _ ub0_8.out
  have qp_u_1 := cell_of_row w8 _ 1 _ _ _ ub0_8.out
  have ql_u := ub0_8_l.out
  simp only [List.getElem?_toArray, List.getElem?_cons_zero, List.getElem?_cons_succ] at q_u_0 q_u_1 qp_u_0 qp_u_1
  go_wp2_with fail
  generalize World.alloc w8 _ = w9 at X9 h9 Y9 ⊢
  have z9 := h9.size
  have yy9 := Y9.out
  have B9 := Lib.hid (bnext B8.out h9)
  have zb9 := B9.out.size
  have u0_9 := Lib.hid (u0_8.out.below h9)
  have ub0_9 := Lib.hid ((h9.block _ ub0_8_l.out).trans ub0_8.out)
  have ub0_9_l := Lib.hid (Nat.lt_of_lt_of_le ub0_8_l.out z9)
  have tb0_9 := Lib.hid ((h9.block _ tb0_8_l.out).trans tb0_8.out)
  have tb0_9_l := Lib.hid (Nat.lt_of_lt_of_le tb0_8_l.out z9)
  have m0_9 := Lib.hid (m0_8.out.below h9)
  have v0_9 := Lib.hid (Fv0.out.below h9)
  refine (eqRack_same ⟨frN a0 [], frL a0 []⟩ _ _ _ v0_9.out.slice u0_9.out.slice LM0.out).mono ?_
  rintro e w10 ⟨rfl, h10⟩
  have z10 := h10.size
  clear q_u_0 q_u_1 qp_u_0 qp_u_1 ql_u
  have B10 := Lib.hid (bnext B9.out h10)
  have zb10 := B10.out.size
  have u0_10 := Lib.hid (u0_9.out.below h10)
  have ub0_10 := Lib.hid ((h10.block _ ub0_9_l.out).trans ub0_9.out)
  have ub0_10_l := Lib.hid (Nat.lt_of_lt_of_le ub0_9_l.out z10)
  have tb0_10 := Lib.hid ((h10.block _ tb0_9_l.out).trans tb0_9.out)
  have tb0_10_l := Lib.hid (Nat.lt_of_lt_of_le tb0_9_l.out z10)
  have m0_10 := Lib.hid (m0_9.out.below h10)
  have v0_10 := Lib.hid (v0_9.out.below h10)
  have vb0_10 := Lib.hid ((h10.block _ Y9.out).trans X9.out)
  have vb0_10_l := Lib.hid (Nat.lt_of_lt_of_le Y9.out z10)
  have q_tb0_0 := cell_of_row w10 _ 0 _ _ _ tb0_10.out
  have q_tb0_1 := cell_of_row w10 _ 1 _ _ _ tb0_10.out
  simp only [List.getElem?_toArray, List.getElem?_cons_zero, List.getElem?_cons_succ] at q_tb0_0 q_tb0_1
  go_wp2_with fail
  refine (heldRack_any (frN a0 []) (.slice At0 nt0 kt0) (frL a0 []).length 1 _ LR0.out (by omega) (by omega) m0_10.out.slice).mono ?_
  rintro e w11 ⟨rfl, h11⟩
  have z11 := h11.size
  clear q_tb0_0 q_tb0_1
  have B11 := Lib.hid (bnext B10.out h11)
  have zb11 := B11.out.size
  have u0_11 := Lib.hid (u0_10.out.below h11)
  have ub0_11 := Lib.hid ((h11.block _ ub0_10_l.out).trans ub0_10.out)
  have ub0_11_l := Lib.hid (Nat.lt_of_lt_of_le ub0_10_l.out z11)
  have tb0_11 := Lib.hid ((h11.block _ tb0_10_l.out).trans tb0_10.out)
  have tb0_11_l := Lib.hid (Nat.lt_of_lt_of_le tb0_10_l.out z11)
  have m0_11 := Lib.hid (m0_10.out.below h11)
  have v0_11 := Lib.hid (v0_10.out.below h11)
  have vb0_11 := Lib.hid ((h11.block _ vb0_10_l.out).trans vb0_10.out)
  have vb0_11_l := Lib.hid (Nat.lt_of_lt_of_le vb0_10_l.out z11)
  go_wp2
  go_ret
  exact ⟨rfl, B11.out⟩

end Go.Proofs.YtlphpajpjpohmaaDoor
