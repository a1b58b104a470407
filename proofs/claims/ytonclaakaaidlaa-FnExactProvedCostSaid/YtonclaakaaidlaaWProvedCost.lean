/- The law of ProvedCost, walked. No condition. -/
import Derived.Test.YtonclaakaaidlaaCheckTable
import Derived.Deep.RegionHeld3
namespace Go.Proofs.Ytonclaakaaidlaa
set_option linter.unusedSimpArgs false
set_option linter.unusedVariables false
set_option maxRecDepth 100000
open Go.RowKit

set_option maxHeartbeats 8000000 in
theorem walkProvedCost (c0 : Cs) (hv0 : Value) (wf0 : c0.Wf) (v1 : Value) (xs1 : List Bk) (wf1 : ∀ b ∈ xs1, b.Wf) (v2 : Value) (t2 : List (List Int)) (wf2 : ∀ zs ∈ t2, ∀ z ∈ zs, (Lit.int .i64 z).wf = true) (w : World) (sl0 : IntsOf .i16 w hv0 c0.hs) (ml0 : c0.hs.length ≤ maxLen) (sl1 : SliceOf w v1 xs1) (ml1 : xs1.length ≤ maxLen) (sl2 : TabOf w v2 t2) (ml2 : t2.length ≤ maxLen) (mr2 : ∀ zs ∈ t2, zs.length ≤ maxLen) :
    Calls Try.prog 11 #[.agg #[.int .i16 c0.wi, .int .i32 c0.lo, hv0], v1, v2] w fun e w' => e = .returned (.bool true) ∧ Below w.heap.size w w' := by
  have mx0 : c0.hs.length ≤ 9223372036854775807 := by unfold maxLen at ml0; omega
  have SL0 := Lib.hid sl0
  have WF0 := Lib.hid wf0
  have ML0 := Lib.hid ml0
  obtain ⟨A0, k0, rfl, -⟩ := sl0
  have mx1 : xs1.length ≤ 9223372036854775807 := by unfold maxLen at ml1; omega
  have SL1 := Lib.hid sl1
  have WF1 := Lib.hid wf1
  have ML1 := Lib.hid ml1
  obtain ⟨A1, k1, rfl, -⟩ := sl1
  have MR2 := Lib.hid mr2
  clear mr2
  have SL2 := Lib.hid sl2
  have WF2 := Lib.hid wf2
  have ML2 := Lib.hid ml2
  obtain ⟨A2, k2, rfl, -⟩ := sl2
  clear wf0 ml0 wf1 ml1 wf2 ml2
  have A0_0 := Lib.hid (CaseIn.new w c0 (.slice A0 c0.hs.length k0) 48)
  have Z0_0 := Lib.hid (show w.heap.size < ((World.alloc w (.cells #[.int .i16 c0.wi, .int .i32 c0.lo, .slice A0 c0.hs.length k0] 48))).heap.size by simp)
  have h1 : Below w.heap.size w (World.alloc w (.cells #[.int .i16 c0.wi, .int .i32 c0.lo, .slice A0 c0.hs.length k0] 48)) := by go_grown
  by_cases hn0 : (c0.hs.length : Int) ≤ 1048576
  · have e0 : ¬ (1048576 - (c0.hs.length : Int) < 0) := by omega
    by_cases hn1 : (xs1.length : Int) ≤ 1048576 - (c0.hs.length : Int)
    · have e1 : ¬ (1048576 - (c0.hs.length : Int) - (xs1.length : Int) < 0) := by omega
      by_cases hn2 : (tsz t2 : Int) ≤ 1048576 - (c0.hs.length : Int) - (xs1.length : Int)
      · have e2 : ¬ (1048576 - (c0.hs.length : Int) - (xs1.length : Int) - (tsz t2 : Int) < 0) := by omega
        go_enter Try.func11, Try.ntmps11
        go_wp2_with fail
        generalize World.alloc _ _ = w1 at A0_0 Z0_0 h1 ⊢
        refine (szCase_left c0 _ _ _ _ mx0 (by omega) (by omega)).mono ?_
        rintro e w2 ⟨rfl, h2⟩
        rw [if_pos (by omega)]
        go_wp2_with fail
        refine (szBookS_left _ _ _ _ _ mx1 (by omega) (by omega)).mono ?_
        rintro e w' ⟨rfl, rfl⟩
        rw [if_pos (by omega)]
        go_wp2_with fail
        refine (szInt64SS_left _ t2 _ _ (SL2.out.below (bnext h1 h2)) MR2.out ML2.out (by omega) (by omega)).mono ?_
        rintro e w' ⟨rfl, rfl⟩
        rw [if_pos (by omega)]
        replace hn0 : c0.hs.length ≤ 1048576 := by omega
        replace hn1 : xs1.length ≤ 1048576 := by omega
        replace hn2 : tsz t2 ≤ 1048576 := by omega
        obtain ⟨p0_0, p0_1, p0_2⟩ := A0_0.out.below h2 Z0_0.out
        go_wp2_with fail
        refine (toCase_any c0 _ _ (SL0.out.below (bnext h1 h2)) hn0).mono ?_
        rintro e w3 ⟨g0, rfl, hg0, hr0, h3⟩
        clear p0_0 p0_1 p0_2
        have R0 := Lib.hid (IRow.slice hr0)
        clear hr0 hg0
        go_wp2_with fail
        refine (toBookS_any _ xs1 _ (SL1.out.below (bnext (bnext h1 h2) h3)) hn1).mono ?_
        rintro e w4 ⟨g1, rfl, hg1, hr1, h4⟩
        have R1 := Lib.hid (Row.slice hr1)
        clear hr1 hg1
        go_wp2_with fail
        refine (toInt64SS_any _ t2 _ (SL2.out.below (bnext (bnext (bnext h1 h2) h3) h4)) hn2).mono ?_
        rintro e w5 ⟨g2, rfl, hr2, h5⟩
        have R2 := Lib.hid hr2
        clear hr2
        go_wp2_with fail
        refine (specProvedCost_any c0 _ _ _ _ xs1 t2 WF0.out WF1.out WF2.out _ (R0.out.below (bnext h4 h5)) ML0.out (R1.out.below h5) (Nat.le_refl _) ML1.out R2.out ML2.out).mono ?_
        rintro e w6 ⟨rfl, h6⟩
        obtain ⟨p0_0, p0_1, p0_2⟩ := A0_0.out.below (bnext (bnext (bnext (bnext h2 h3) h4) h5) h6) Z0_0.out
        go_wp2_with fail
        refine (toCase_any c0 _ _ (SL0.out.below (bnext (bnext (bnext (bnext (bnext h1 h2) h3) h4) h5) h6)) hn0).mono ?_
        rintro e w7 ⟨g3, rfl, hg3, hr3, h7⟩
        clear p0_0 p0_1 p0_2
        have R3 := Lib.hid (IRow.slice hr3)
        clear hr3 hg3
        have X_0 := Lib.hid (CaseIn.new w7 c0 (.slice (some ⟨g3, 0, none⟩) c0.hs.length c0.hs.length) 53)
        have h8 := (Below.refl w7.heap.size w7).alloc (Nat.le_refl _) (.cells #[.int .i16 c0.wi, .int .i32 c0.lo, .slice (some ⟨g3, 0, none⟩) c0.hs.length c0.hs.length] 53)
        have Y_0 := Lib.hid (show w7.heap.size < (World.alloc w7 (.cells #[.int .i16 c0.wi, .int .i32 c0.lo, .slice (some ⟨g3, 0, none⟩) c0.hs.length c0.hs.length] 53)).heap.size by simp)
        go_wp2_with fail
        generalize World.alloc _ _ = w8 at X_0 h8 Y_0 ⊢
        refine (toBookS_any _ xs1 _ (SL1.out.below (bnext (bnext (bnext (bnext (bnext (bnext (bnext h1 h2) h3) h4) h5) h6) h7) h8)) hn1).mono ?_
        rintro e w9 ⟨g4, rfl, hg4, hr4, h9⟩
        have R4 := Lib.hid (Row.slice hr4)
        clear hr4 hg4
        go_wp2_with fail
        refine (toInt64SS_any _ t2 _ (SL2.out.below (bnext (bnext (bnext (bnext (bnext (bnext (bnext (bnext h1 h2) h3) h4) h5) h6) h7) h8) h9)) hn2).mono ?_
        rintro e w10 ⟨g5, rfl, hr5, h10⟩
        have R5 := Lib.hid hr5
        clear hr5
        obtain ⟨p0_0, p0_1, p0_2⟩ := X_0.out.below (bnext h9 h10) Y_0.out
        go_wp2_with fail
        refine (provedCost_any c0 _ _ _ _ xs1 t2 WF0.out WF1.out WF2.out _ (R3.out.below (bnext (bnext h8 h9) h10)) ML0.out (R4.out.below h10) (Nat.le_refl _) ML1.out R5.out ML2.out).mono ?_
        rintro e w11 ⟨rfl, h11⟩
        clear p0_0 p0_1 p0_2
        generalize pcVal c0 xs1 t2 = r0
        generalize pcCode c0 xs1 t2 = r1
        have b0_0 : Below w11.heap.size w11 w11.drew := (Below.refl _ _).drew
        have HK0 := Lib.hid (show ∀ W1, Below w11.heap.size w11 W1 → (fun W1 => Below w11.heap.size w11 W1 ∧ W1.cell? ⟨w7.heap.size, 0, none⟩ = some (.int .i16 c0.wi) ∧ W1.cell? ⟨w7.heap.size, 1, none⟩ = some (.int .i32 c0.lo) ∧ W1.cell? ⟨w7.heap.size, 2, none⟩ = some (.slice (some ⟨g3, 0, none⟩) c0.hs.length c0.hs.length) ∧ W1.cell? ⟨w.heap.size, 0, none⟩ = some (.int .i16 c0.wi) ∧ W1.cell? ⟨w.heap.size, 1, none⟩ = some (.int .i32 c0.lo) ∧ W1.cell? ⟨w.heap.size, 2, none⟩ = some (.slice A0 c0.hs.length k0)) W1 from fun W1 hB => ⟨hB, (X_0.out.below (bnext (bnext (bnext h9 h10) h11) hB) Y_0.out).1, (X_0.out.below (bnext (bnext (bnext h9 h10) h11) hB) Y_0.out).2.1, (X_0.out.below (bnext (bnext (bnext h9 h10) h11) hB) Y_0.out).2.2, (A0_0.out.below (bnext (bnext (bnext (bnext (bnext (bnext (bnext (bnext (bnext (bnext h2 h3) h4) h5) h6) h7) h8) h9) h10) h11) hB) Z0_0.out).1, (A0_0.out.below (bnext (bnext (bnext (bnext (bnext (bnext (bnext (bnext (bnext (bnext h2 h3) h4) h5) h6) h7) h8) h9) h10) h11) hB) Z0_0.out).2.1, (A0_0.out.below (bnext (bnext (bnext (bnext (bnext (bnext (bnext (bnext (bnext (bnext h2 h3) h4) h5) h6) h7) h8) h9) h10) h11) hB) Z0_0.out).2.2⟩)
        have GG0 := Lib.hid (bnext (bnext (bnext (bnext (bnext (bnext (bnext (bnext (bnext (bnext h1 h2) h3) h4) h5) h6) h7) h8) h9) h10) h11)
        have RR0 := Lib.hid (R3.out.below (bnext (bnext (bnext h8 h9) h10) h11))
        go_wp2
        go_region_held3 (fun W1 => Below w11.heap.size w11 W1 ∧ W1.cell? ⟨w7.heap.size, 0, none⟩ = some (.int .i16 c0.wi) ∧ W1.cell? ⟨w7.heap.size, 1, none⟩ = some (.int .i32 c0.lo) ∧ W1.cell? ⟨w7.heap.size, 2, none⟩ = some (.slice (some ⟨g3, 0, none⟩) c0.hs.length c0.hs.length) ∧ W1.cell? ⟨w.heap.size, 0, none⟩ = some (.int .i16 c0.wi) ∧ W1.cell? ⟨w.heap.size, 1, none⟩ = some (.int .i32 c0.lo) ∧ W1.cell? ⟨w.heap.size, 2, none⟩ = some (.slice A0 c0.hs.length k0)) (first | exact HK0.out _ b0_0 | (refine HK0.out _ (bnext ?_ hq); exact And.left (by assumption))) (first
          | (go_at_call 37; refine (toCase_any c0 _ _ (SL0.out.below (bnext GG0.out (And.left (by assumption)))) hn0).mono ?_; rintro e w' ⟨gz, rfl, hg, hr, hq⟩; have HR := Lib.hid (IRow.slice hr); clear hr hg)
          | (go_at_call 40; refine (eqCase_same c0 _ _ _ (RR0.out.below (And.left (by assumption))) HR.out ML0.out).mono ?_; rintro e w12 ⟨rfl, hq⟩))
        all_goals
          have h12 : Below w11.heap.size w11 w12 := And.left (by assumption)
          clear HK0 b0_0 GG0 RR0 HR
          go_wp2_with fail
          refine (toBookS_any _ xs1 _ (SL1.out.below (bnext (bnext (bnext (bnext (bnext (bnext (bnext (bnext (bnext (bnext (bnext h1 h2) h3) h4) h5) h6) h7) h8) h9) h10) h11) h12)) hn1).mono ?_
          rintro e w13 ⟨g6, rfl, hg6, hr6, h13⟩
          have R6 := Lib.hid (Row.slice hr6)
          clear hr6 hg6
          go_wp2_with fail
          refine (eqBookS_same _ _ xs1 _ (R4.out.below (bnext (bnext (bnext h10 h11) h12) h13)) R6.out ML1.out).mono ?_
          rintro e w14 ⟨rfl, h14⟩
          go_wp2_with fail
          refine (toInt64SS_any _ t2 _ (SL2.out.below (bnext (bnext (bnext (bnext (bnext (bnext (bnext (bnext (bnext (bnext (bnext (bnext (bnext h1 h2) h3) h4) h5) h6) h7) h8) h9) h10) h11) h12) h13) h14)) hn2).mono ?_
          rintro e w15 ⟨g7, rfl, hr7, h15⟩
          have R7 := Lib.hid hr7
          clear hr7
          go_wp2_with fail
          refine (eqInt64SS_same _ _ t2 _ (R5.out.below (bnext (bnext (bnext (bnext h11 h12) h13) h14) h15)) R7.out MR2.out ML2.out).mono ?_
          rintro e w16 ⟨rfl, h16⟩
          go_wp2
          go_ret
          exact ⟨rfl, (bnext (bnext (bnext (bnext (bnext (bnext (bnext (bnext (bnext (bnext (bnext (bnext (bnext (bnext (bnext h1 h2) h3) h4) h5) h6) h7) h8) h9) h10) h11) h12) h13) h14) h15) h16)⟩
      · have e2 : (1048576 - (c0.hs.length : Int) - (xs1.length : Int) - (tsz t2 : Int) < 0) := by omega
        go_enter Try.func11, Try.ntmps11
        go_wp2_with fail
        generalize World.alloc _ _ = w1 at A0_0 Z0_0 h1 ⊢
        refine (szCase_left c0 _ _ _ _ mx0 (by omega) (by omega)).mono ?_
        rintro e w2 ⟨rfl, h2⟩
        rw [if_pos (by omega)]
        go_wp2_with fail
        refine (szBookS_left _ _ _ _ _ mx1 (by omega) (by omega)).mono ?_
        rintro e w' ⟨rfl, rfl⟩
        rw [if_pos (by omega)]
        go_wp2_with fail
        refine (szInt64SS_left _ t2 _ _ (SL2.out.below (bnext h1 h2)) MR2.out ML2.out (by omega) (by omega)).mono ?_
        rintro e w' ⟨rfl, rfl⟩
        rw [if_neg (by omega)]
        go_wp2
        go_ret
        exact ⟨rfl, (bnext h1 h2)⟩
    · have e1 : (1048576 - (c0.hs.length : Int) - (xs1.length : Int) < 0) := by omega
      go_enter Try.func11, Try.ntmps11
      go_wp2_with fail
      generalize World.alloc _ _ = w1 at A0_0 Z0_0 h1 ⊢
      refine (szCase_left c0 _ _ _ _ mx0 (by omega) (by omega)).mono ?_
      rintro e w2 ⟨rfl, h2⟩
      rw [if_pos (by omega)]
      go_wp2_with fail
      refine (szBookS_left _ _ _ _ _ mx1 (by omega) (by omega)).mono ?_
      rintro e w' ⟨rfl, rfl⟩
      rw [if_neg (by omega)]
      go_wp2
      go_ret
      exact ⟨rfl, (bnext h1 h2)⟩
  · have e0 : (1048576 - (c0.hs.length : Int) < 0) := by omega
    go_enter Try.func11, Try.ntmps11
    go_wp2_with fail
    generalize World.alloc _ _ = w1 at A0_0 Z0_0 h1 ⊢
    refine (szCase_left c0 _ _ _ _ mx0 (by omega) (by omega)).mono ?_
    rintro e w2 ⟨rfl, h2⟩
    rw [if_neg (by omega)]
    go_wp2
    go_ret
    exact ⟨rfl, (bnext h1 h2)⟩

end Go.Proofs.Ytonclaakaaidlaa
