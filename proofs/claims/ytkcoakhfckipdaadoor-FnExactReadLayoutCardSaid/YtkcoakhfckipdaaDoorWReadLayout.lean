/- The law of ReadLayout, walked. Condition: the three error variables hold three different errors of errors.New's make. -/
import Derived.Test.YtkcoakhfckipdaaDoorRdY
import Derived.Deep.RegionHeld3
import Derived.Test.YtkcoakhfckipdaaDoorOwnsI
namespace Go.Proofs.YtkcoakhfckipdaaDoor
set_option linter.unusedSimpArgs false
set_option linter.unusedVariables false
set_option maxRecDepth 100000
open Go.RowKit

theorem rowOtherReadLayout {w w' : World} {g g' : Nat} {xs : List Bk} (h : Row w g xs) (hg : w.grownBy w' (some g')) (hne : g ≠ g') : Row w' g xs := by
  obtain ⟨cs, h1, h2⟩ := h
  exact ⟨cs, (hg.block g (Array.getElem?_eq_some_iff.1 h1).1 (fun e => hne (by injection e))).trans h1, h2⟩
theorem irowOtherReadLayout {w w' : World} {g g' : Nat} {t : TypeId} {zs : List Int} (h : IRow .i64 t w g zs) (hg : w.grownBy w' (some g')) (hne : g ≠ g') : IRow .i64 t w' g zs := by
  obtain ⟨cs, h1, h2⟩ := h
  exact ⟨cs, (hg.block g (Array.getElem?_eq_some_iff.1 h1).1 (fun e => hne (by injection e))).trans h1, h2⟩

set_option maxHeartbeats 16000000 in
theorem walkReadLayout (s0 : ByteArray) (wf0 : s0.size ≤ maxLen) (w : World) (s y : Addr) (he : Es2 w s y)  :
    Calls Tryd.prog 5 #[.string s0] w fun e w' => e = .returned (.bool true) ∧ Below w.heap.size w w' := by
  have HE := Lib.hid he
  clear he
  by_cases hn0 : (s0.size : Int) ≤ 1048576
  · have e0 : ¬ ((1048576 : Int) < (s0.size : Int)) := by omega
    go_enter Tryd.func5, Tryd.ntmps5
    replace hn0 : s0.size ≤ 1048576 := by omega
    have LR0 := Lib.hid (show (rlZ s0.data.toList).length ≤ 1048576 from rlZ_len _)
    have LM0 := Lib.hid (show (rlZ s0.data.toList).length ≤ maxLen from Nat.le_trans LR0.out (by unfold maxLen; omega))
    go_wp2_with fail
    refine (specReadLayout_any s0 hn0 _).mono ?_
    rintro e w1 ⟨u0, rfl, hu0, h1⟩
    have z1 := h1.size
    have B1 := Lib.hid h1
    have zb1 := B1.out.size
    have Fu0 := Lib.hid hu0
    have Lu0 := Lib.hid Fu0.out.lt
    clear hu0
    go_wp2_with fail
    refine (readLayout_any s0 hn0 _ s y (HE.out.below B1.out)).mono ?_
    rintro e w2 ⟨t0, rfl, ht0, h2⟩
    have z2 := h2.size
    have B2 := Lib.hid (bnext B1.out h2)
    have zb2 := B2.out.size
    have u0_2 := Lib.hid (ownBelow Fu0.out h2)
    have Ft0 := Lib.hid ht0
    have Lt0 := Lib.hid Ft0.out.lt
    clear ht0
    generalize hrc1 : rlC s0.data.toList = rc1
    have HRC1 := Lib.hid hrc1
    clear hrc1
    go_wp2_with fail
    refine (eqInt64S_same' _ _ (rlZ s0.data.toList) _ (ownInts Ft0.out) (ownInts u0_2.out) LM0.out).mono ?_
    rintro e w3 ⟨rfl, h3⟩
    have z3 := h3.size
    have B3 := Lib.hid (bnext B2.out h3)
    have zb3 := B3.out.size
    have u0_3 := Lib.hid (ownBelow u0_2.out h3)
    have t0_3 := Lib.hid (ownBelow Ft0.out h3)
    go_wp2_with fail
    refine (markI64_any t0 (rlZ s0.data.toList) 1 _ _ LR0.out (by omega) (by omega) t0_3.out).mono ?_
    rintro e w4 ⟨rfl, hm0, h4⟩
    have z4 := h4.size
    have M0 := Lib.hid hm0
    clear hm0
    have B4 := Lib.hid (B3.out.grown h4 B3.out.size (fun k hk => by have := Lt0.out k hk; omega))
    have zb4 := B4.out.size
    have u0_4 := Lib.hid (ownOther u0_3.out h4 (fun k hk e => by have := Lu0.out k hk; have := Lt0.out k e.symm; omega))
    go_wp2_with fail
    refine (heldI64_any t0 (rlZ s0.data.toList) 1 _ LR0.out (by omega) (by omega) (ownInts M0.out)).mono ?_
    rintro e w5 ⟨rfl, h5⟩
    have z5 := h5.size
    have B5 := Lib.hid (bnext B4.out h5)
    have zb5 := B5.out.size
    have u0_5 := Lib.hid (ownBelow u0_4.out h5)
    have m0_5 := Lib.hid (ownBelow M0.out h5)
    go_wp2_with fail
    refine (readLayout_any s0 hn0 _ s y (HE.out.below B5.out)).mono ?_
    rintro e w6 ⟨v0, rfl, hv0, h6⟩
    have z6 := h6.size
    have B6 := Lib.hid (bnext B5.out h6)
    have zb6 := B6.out.size
    have u0_6 := Lib.hid (ownBelow u0_5.out h6)
    have m0_6 := Lib.hid (ownBelow m0_5.out h6)
    have Fv0 := Lib.hid hv0
    have Lv0 := Lib.hid Fv0.out.lt
    clear hv0
    rw [HRC1.out]
    go_wp2_with fail
    refine (eqInt64S_same' _ _ (rlZ s0.data.toList) _ (ownInts Fv0.out) (ownInts u0_6.out) LM0.out).mono ?_
    rintro e w7 ⟨rfl, h7⟩
    have z7 := h7.size
    have B7 := Lib.hid (bnext B6.out h7)
    have zb7 := B7.out.size
    have u0_7 := Lib.hid (ownBelow u0_6.out h7)
    have m0_7 := Lib.hid (ownBelow m0_6.out h7)
    have v0_7 := Lib.hid (ownBelow Fv0.out h7)
    go_wp2_with fail
    refine (heldI64_any t0 (rlZ s0.data.toList) 1 _ LR0.out (by omega) (by omega) (ownInts m0_7.out)).mono ?_
    rintro e w8 ⟨rfl, h8⟩
    have z8 := h8.size
    have B8 := Lib.hid (bnext B7.out h8)
    have zb8 := B8.out.size
    have u0_8 := Lib.hid (ownBelow u0_7.out h8)
    have m0_8 := Lib.hid (ownBelow m0_7.out h8)
    have v0_8 := Lib.hid (ownBelow v0_7.out h8)
    go_wp2
    go_ret
    exact ⟨rfl, B8.out⟩
  · have e0 : (1048576 : Int) < (s0.size : Int) := by omega
    go_enter Tryd.func5, Tryd.ntmps5
    go_wp2
    go_ret
    exact ⟨rfl, by go_grown⟩

end Go.Proofs.YtkcoakhfckipdaaDoor
