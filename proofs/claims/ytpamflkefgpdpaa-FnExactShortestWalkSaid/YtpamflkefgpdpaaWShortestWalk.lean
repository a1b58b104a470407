/- The law of ShortestWalk, walked. No condition. -/
import Derived.Test.YtpamflkefgpdpaaShS2
import Derived.Test.YtpamflkefgpdpaaShW
import Derived.Deep.RegionHeld3
import Derived.Test.YtpamflkefgpdpaaOwnsI
namespace Go.Proofs.Ytpamflkefgpdpaa
set_option linter.unusedSimpArgs false
set_option linter.unusedVariables false
set_option maxRecDepth 100000
open Go.RowKit

theorem rowOtherShortestWalk {w w' : World} {g g' : Nat} {xs : List Bk} (h : Row w g xs) (hg : w.grownBy w' (some g')) (hne : g ≠ g') : Row w' g xs := by
  obtain ⟨cs, h1, h2⟩ := h
  exact ⟨cs, (hg.block g (Array.getElem?_eq_some_iff.1 h1).1 (fun e => hne (by injection e))).trans h1, h2⟩
theorem irow8OtherShortestWalk {w w' : World} {g g' : Nat} {t : TypeId} {zs : List Int} (h : IRow .i8 t w g zs) (hg : w.grownBy w' (some g')) (hne : g ≠ g') : IRow .i8 t w' g zs := by
  obtain ⟨cs, h1, h2⟩ := h
  exact ⟨cs, (hg.block g (Array.getElem?_eq_some_iff.1 h1).1 (fun e => hne (by injection e))).trans h1, h2⟩
theorem irowOtherShortestWalk {w w' : World} {g g' : Nat} {t : TypeId} {zs : List Int} (h : IRow .i64 t w g zs) (hg : w.grownBy w' (some g')) (hne : g ≠ g') : IRow .i64 t w' g zs := by
  obtain ⟨cs, h1, h2⟩ := h
  exact ⟨cs, (hg.block g (Array.getElem?_eq_some_iff.1 h1).1 (fun e => hne (by injection e))).trans h1, h2⟩

set_option maxHeartbeats 16000000 in
theorem walkShortestWalk (v0 : Value) (zs0 : List Int) (wf0 : ∀ z ∈ zs0, (Lit.int .i64 z).wf = true) (a1 : Int) (wf1 : (Lit.int .i64 a1).wf = true) (w : World) (sl0 : IntsOf .i64 w v0 zs0) (ml0 : zs0.length ≤ maxLen) :
    Calls Try.prog 3 #[v0, .int .i64 a1] w fun e w' => e = .returned (.bool true) ∧ Below w.heap.size w w' := by
  have mx0 : zs0.length ≤ 9223372036854775807 := by unfold maxLen at ml0; omega
  have SL0 := Lib.hid sl0
  have WF0 := Lib.hid wf0
  have ML0 := Lib.hid ml0
  obtain ⟨A0, k0, rfl, -⟩ := sl0
  have WI1 := Lib.hid wf1
  clear wf0 ml0 wf1
  by_cases hn0 : (zs0.length : Int) ≤ 1048576
  · have e0 : ¬ ((1048576 : Int) < (zs0.length : Int)) := by omega
    go_enter Try.func3, Try.ntmps3
    replace hn0 : zs0.length ≤ 1048576 := by omega
    have LR0 := Lib.hid (show (swR zs0 a1).length ≤ 1048576 from (Nat.le_trans (swR_len zs0 a1) (by omega)))
    have LM0 := Lib.hid (show (swR zs0 a1).length ≤ maxLen from Nat.le_trans LR0.out (by unfold maxLen; omega))
    go_wp2_with fail
    refine (toInt64S_any _ zs0 _ (SL0.out) hn0).mono ?_
    rintro e w1 ⟨g0, rfl, lo0, hr0, h1⟩
    have z1 := h1.size
    have B1 := Lib.hid h1
    have zb1 := B1.out.size
    have P0 := Lib.hid hr0
    have hi0 := hr0.lt
    clear hr0
    go_wp2_with fail
    refine (specShortestWalk_any _ _ _ zs0 a1 _ (IRow.slice P0.out) ML0.out).mono ?_
    rintro e w2 ⟨u0, rfl, hu0, h2⟩
    have z2 := h2.size
    have B2 := Lib.hid (bnext B1.out h2)
    have zb2 := B2.out.size
    have s0_2 := Lib.hid (P0.out.below h2 P0.out.lt)
    have Fu0 := Lib.hid hu0
    have Lu0 := Lib.hid Fu0.out.lt
    clear hu0
    go_wp2_with fail
    refine (toInt64S_any _ zs0 _ (SL0.out.below B2.out) hn0).mono ?_
    rintro e w3 ⟨g1, rfl, lo1, hr1, h3⟩
    have z3 := h3.size
    have B3 := Lib.hid (bnext B2.out h3)
    have zb3 := B3.out.size
    have u0_3 := Lib.hid (ownBelow Fu0.out h3)
    have P1 := Lib.hid hr1
    have hi1 := hr1.lt
    clear hr1
    go_wp2_with fail
    refine (shortestWalk_any _ zs0 a1 _ (IRow.slice P1.out) ML0.out).mono ?_
    rintro e w4 ⟨t0, rfl, ht0, h4⟩
    have z4 := h4.size
    have B4 := Lib.hid (bnext B3.out h4)
    have zb4 := B4.out.size
    have u0_4 := Lib.hid (ownBelow u0_3.out h4)
    have x0_4 := Lib.hid (P1.out.below h4 P1.out.lt)
    have Ft0 := Lib.hid ht0
    have Lt0 := Lib.hid Ft0.out.lt
    clear ht0
    generalize hrc1 : swV zs0 a1 = rc1
    have HRC1 := Lib.hid hrc1
    clear hrc1
    generalize hrc2 : wkC zs0 a1 = rc2
    have HRC2 := Lib.hid hrc2
    clear hrc2
    go_wp2_with fail
    refine (eqInt64S_same' _ _ (swR zs0 a1) _ (ownInts Ft0.out) (ownInts u0_4.out) LM0.out).mono ?_
    rintro e w5 ⟨rfl, h5⟩
    have z5 := h5.size
    have B5 := Lib.hid (bnext B4.out h5)
    have zb5 := B5.out.size
    have u0_5 := Lib.hid (ownBelow u0_4.out h5)
    have x0_5 := Lib.hid (x0_4.out.below h5 x0_4.out.lt)
    have t0_5 := Lib.hid (ownBelow Ft0.out h5)
    go_wp2_with fail
    refine (toInt64S_any _ zs0 _ (SL0.out.below B5.out) hn0).mono ?_
    rintro e w6 ⟨g2, rfl, lo2, hr2, h6⟩
    have z6 := h6.size
    have B6 := Lib.hid (bnext B5.out h6)
    have zb6 := B6.out.size
    have u0_6 := Lib.hid (ownBelow u0_5.out h6)
    have x0_6 := Lib.hid (x0_5.out.below h6 x0_5.out.lt)
    have t0_6 := Lib.hid (ownBelow t0_5.out h6)
    have P2 := Lib.hid hr2
    have hi2 := hr2.lt
    clear hr2
    go_wp2_with fail
    refine (eqInt64S_same' _ _ zs0 _ (IRow.slice x0_6.out) (IRow.slice P2.out) ML0.out).mono ?_
    rintro e w7 ⟨rfl, h7⟩
    have z7 := h7.size
    have B7 := Lib.hid (bnext B6.out h7)
    have zb7 := B7.out.size
    have u0_7 := Lib.hid (ownBelow u0_6.out h7)
    have x0_7 := Lib.hid (x0_6.out.below h7 x0_6.out.lt)
    have t0_7 := Lib.hid (ownBelow t0_6.out h7)
    have d0_7 := Lib.hid (P2.out.below h7 P2.out.lt)
    go_wp2_with fail
    refine (markI64_any _ zs0 1 0 _ hn0 (by omega) (by omega) (IRow.ownsI x0_7.out (Nat.zero_le _) ML0.out)).mono ?_
    rintro e w8 ⟨rfl, -, h8⟩
    have z8 := h8.size
    have h8 : World.grownBy w7 w8 (some g1) := h8
    have B8 := Lib.hid (B7.out.grown h8 B7.out.size (fun k hk => by injection hk with hk; omega))
    have zb8 := B8.out.size
    have u0_8 := Lib.hid (ownOther u0_7.out h8 (fun k hk e => by have := Lu0.out k hk; first | (injection e with e; omega) | omega))
    have t0_8 := Lib.hid (ownOther t0_7.out h8 (fun k hk e => by have := Lt0.out k hk; first | (injection e with e; omega) | omega))
    generalize hkk8 : 1 + (zs0.length : Int) = kk8
    have kl8 : 0 ≤ kk8 := by omega
    have ku8 : kk8 ≤ 1048577 := by omega
    clear hkk8
    have kd : decide (kk8 < 0) = false := by simp; omega
    have kd2 : ¬ (kk8 < 0) := by omega
    go_wp2_with fail
    refine (eqInt64S_same' _ _ (swR zs0 a1) _ (ownInts t0_8.out) (ownInts u0_8.out) LM0.out).mono ?_
    rintro e w9 ⟨rfl, h9⟩
    have z9 := h9.size
    have B9 := Lib.hid (bnext B8.out h9)
    have zb9 := B9.out.size
    have u0_9 := Lib.hid (ownBelow u0_8.out h9)
    have t0_9 := Lib.hid (ownBelow t0_8.out h9)
    go_wp2_with fail
    refine (markI64_any t0 (swR zs0 a1) 1 _ _ LR0.out (by omega) (by omega) t0_9.out).mono ?_
    rintro e w10 ⟨rfl, hm0, h10⟩
    have z10 := h10.size
    have M0 := Lib.hid hm0
    clear hm0
    have B10 := Lib.hid (B9.out.grown h10 B9.out.size (fun k hk => by have := Lt0.out k hk; omega))
    have zb10 := B10.out.size
    have u0_10 := Lib.hid (ownOther u0_9.out h10 (fun k hk e => by have := Lu0.out k hk; have := Lt0.out k e.symm; omega))
    go_wp2_with fail
    refine (heldI64_any t0 (swR zs0 a1) 1 _ LR0.out (by omega) (by omega) (ownInts M0.out)).mono ?_
    rintro e w11 ⟨rfl, h11⟩
    have z11 := h11.size
    have B11 := Lib.hid (bnext B10.out h11)
    have zb11 := B11.out.size
    have u0_11 := Lib.hid (ownBelow u0_10.out h11)
    have m0_11 := Lib.hid (ownBelow M0.out h11)
    go_wp2_with fail
    refine (toInt64S_any _ zs0 _ (SL0.out.below B11.out) hn0).mono ?_
    rintro e w12 ⟨g3, rfl, lo3, hr3, h12⟩
    have z12 := h12.size
    have B12 := Lib.hid (bnext B11.out h12)
    have zb12 := B12.out.size
    have u0_12 := Lib.hid (ownBelow u0_11.out h12)
    have m0_12 := Lib.hid (ownBelow m0_11.out h12)
    have P3 := Lib.hid hr3
    have hi3 := hr3.lt
    clear hr3
    go_wp2_with fail
    refine (shortestWalk_any _ zs0 a1 _ (IRow.slice P3.out) ML0.out).mono ?_
    rintro e w13 ⟨v0, rfl, hv0, h13⟩
    have z13 := h13.size
    have B13 := Lib.hid (bnext B12.out h13)
    have zb13 := B13.out.size
    have u0_13 := Lib.hid (ownBelow u0_12.out h13)
    have m0_13 := Lib.hid (ownBelow m0_12.out h13)
    have p0_13 := Lib.hid (P3.out.below h13 P3.out.lt)
    have Fv0 := Lib.hid hv0
    have Lv0 := Lib.hid Fv0.out.lt
    clear hv0
    rw [HRC1.out]
    rw [HRC2.out]
    go_wp2_with fail
    refine (eqInt64S_same' _ _ (swR zs0 a1) _ (ownInts Fv0.out) (ownInts u0_13.out) LM0.out).mono ?_
    rintro e w14 ⟨rfl, h14⟩
    have z14 := h14.size
    have B14 := Lib.hid (bnext B13.out h14)
    have zb14 := B14.out.size
    have u0_14 := Lib.hid (ownBelow u0_13.out h14)
    have m0_14 := Lib.hid (ownBelow m0_13.out h14)
    have v0_14 := Lib.hid (ownBelow Fv0.out h14)
    go_wp2_with fail
    refine (heldI64_any t0 (swR zs0 a1) 1 _ LR0.out (by omega) (by omega) (ownInts m0_14.out)).mono ?_
    rintro e w15 ⟨rfl, h15⟩
    have z15 := h15.size
    have B15 := Lib.hid (bnext B14.out h15)
    have zb15 := B15.out.size
    have u0_15 := Lib.hid (ownBelow u0_14.out h15)
    have m0_15 := Lib.hid (ownBelow m0_14.out h15)
    have v0_15 := Lib.hid (ownBelow v0_14.out h15)
    go_wp2
    go_ret
    exact ⟨rfl, B15.out⟩
  · have e0 : (1048576 : Int) < (zs0.length : Int) := by omega
    go_enter Try.func3, Try.ntmps3
    go_wp2
    go_ret
    exact ⟨rfl, by go_grown⟩

end Go.Proofs.Ytpamflkefgpdpaa
