/- The law of FitsOn, walked. No condition. -/
import Derived.Test.YtdkdchhkfachmaaFitsOn
import Derived.Deep.RegionHeld3
namespace Go.Proofs.Ytdkdchhkfachmaa
set_option linter.unusedSimpArgs false
set_option linter.unusedVariables false
set_option maxRecDepth 100000
open Go.RowKit

set_option maxHeartbeats 8000000 in
theorem walkFitsOn (c0 : Cs) (hv0 : Value) (wf0 : c0.Wf) (a1 : Int) (wf1 : (Lit.int .i64 a1).wf = true) (v2 : Value) (xs2 : List Bk) (wf2 : ∀ b ∈ xs2, b.Wf) (w : World) (sl0 : IntsOf .i16 w hv0 c0.hs) (ml0 : c0.hs.length ≤ maxLen) (sl2 : SliceOf w v2 xs2) (ml2 : xs2.length ≤ maxLen) :
    Calls Try.prog 5 #[.agg #[.int .i16 c0.wi, .int .i32 c0.lo, hv0], .int .i64 a1, v2] w fun e w' => e = .returned (.bool true) ∧ Below w.heap.size w w' := by
  have mx0 : c0.hs.length ≤ 9223372036854775807 := by unfold maxLen at ml0; omega
  have SL0 := Lib.hid sl0
  have WF0 := Lib.hid wf0
  have ML0 := Lib.hid ml0
  obtain ⟨A0, k0, rfl, -⟩ := sl0
  have mx2 : xs2.length ≤ 9223372036854775807 := by unfold maxLen at ml2; omega
  have SL2 := Lib.hid sl2
  have WF2 := Lib.hid wf2
  have ML2 := Lib.hid ml2
  obtain ⟨A2, k2, rfl, -⟩ := sl2
  clear wf0 ml0 wf2 ml2
  have WI1 := Lib.hid wf1
  have bi1 := bounds_i64 wf1
  have bi1l := bi1.1
  have bi1h := bi1.2
  clear wf1 bi1
  have A0_0 := Lib.hid (CaseIn.new w c0 (.slice A0 c0.hs.length k0) 25)
  have Z0_0 := Lib.hid (show w.heap.size < ((World.alloc w (.cells #[.int .i16 c0.wi, .int .i32 c0.lo, .slice A0 c0.hs.length k0] 25))).heap.size by simp)
  have h1 : Below w.heap.size w (World.alloc w (.cells #[.int .i16 c0.wi, .int .i32 c0.lo, .slice A0 c0.hs.length k0] 25)) := by go_grown
  by_cases hn0 : (c0.hs.length : Int) ≤ 1048576
  · have e0 : ¬ (1048576 - (c0.hs.length : Int) < 0) := by omega
    by_cases hn2 : (xs2.length : Int) ≤ 1048576 - (c0.hs.length : Int)
    · have e2 : ¬ (1048576 - (c0.hs.length : Int) - (xs2.length : Int) < 0) := by omega
      go_enter Try.func5, Try.ntmps5
      go_wp2_with fail
      generalize World.alloc _ _ = w1 at A0_0 Z0_0 h1 ⊢
      refine (szCase_left c0 _ _ _ _ mx0 (by omega) (by omega)).mono ?_
      rintro e w2 ⟨rfl, h2⟩
      rw [if_pos (by omega)]
      go_wp2_with fail
      refine (szBookS_left _ _ _ _ _ mx2 (by omega) (by omega)).mono ?_
      rintro e w' ⟨rfl, rfl⟩
      rw [if_pos (by omega)]
      replace hn0 : c0.hs.length ≤ 1048576 := by omega
      replace hn2 : xs2.length ≤ 1048576 := by omega
      obtain ⟨p0_0, p0_1, p0_2⟩ := A0_0.out.below h2 Z0_0.out
      go_wp2_with fail
      refine (toCase_any c0 _ _ (SL0.out.below (bnext h1 h2)) hn0).mono ?_
      rintro e w3 ⟨g0, rfl, hg0, hr0, h3⟩
      clear p0_0 p0_1 p0_2
      have R0 := Lib.hid (IRow.slice hr0)
      clear hr0 hg0
      go_wp2_with fail
      refine (toBookS_any _ xs2 _ (SL2.out.below (bnext (bnext h1 h2) h3)) hn2).mono ?_
      rintro e w4 ⟨g1, rfl, hg1, hr1, h4⟩
      have R1 := Lib.hid (Row.slice hr1)
      clear hr1 hg1
      go_wp2_with fail
      refine (specFitsOn_any c0 _ _ xs2 a1 WF0.out WF2.out _ (R0.out.below h4) ML0.out R1.out hn2 ML2.out bi1l bi1h).mono ?_
      rintro e w5 ⟨rfl, h5⟩
      obtain ⟨p0_0, p0_1, p0_2⟩ := A0_0.out.below (bnext (bnext (bnext h2 h3) h4) h5) Z0_0.out
      go_wp2_with fail
      refine (toCase_any c0 _ _ (SL0.out.below (bnext (bnext (bnext (bnext h1 h2) h3) h4) h5)) hn0).mono ?_
      rintro e w6 ⟨g2, rfl, hg2, hr2, h6⟩
      clear p0_0 p0_1 p0_2
      have R2 := Lib.hid (IRow.slice hr2)
      clear hr2 hg2
      have X_0 := Lib.hid (CaseIn.new w6 c0 (.slice (some ⟨g2, 0, none⟩) c0.hs.length c0.hs.length) 28)
      have h7 := (Below.refl w6.heap.size w6).alloc (Nat.le_refl _) (.cells #[.int .i16 c0.wi, .int .i32 c0.lo, .slice (some ⟨g2, 0, none⟩) c0.hs.length c0.hs.length] 28)
      have Y_0 := Lib.hid (show w6.heap.size < (World.alloc w6 (.cells #[.int .i16 c0.wi, .int .i32 c0.lo, .slice (some ⟨g2, 0, none⟩) c0.hs.length c0.hs.length] 28)).heap.size by simp)
      go_wp2_with fail
      generalize World.alloc _ _ = w7 at X_0 h7 Y_0 ⊢
      refine (toBookS_any _ xs2 _ (SL2.out.below (bnext (bnext (bnext (bnext (bnext (bnext h1 h2) h3) h4) h5) h6) h7)) hn2).mono ?_
      rintro e w8 ⟨g3, rfl, hg3, hr3, h8⟩
      have R3 := Lib.hid (Row.slice hr3)
      clear hr3 hg3
      obtain ⟨p0_0, p0_1, p0_2⟩ := X_0.out.below h8 Y_0.out
      go_wp2_with fail
      refine (fitsOn_any c0 _ _ _ xs2 a1 WF2.out _ (R2.out.below (bnext h7 h8)) ML0.out R3.out (Nat.le_refl _) ML2.out bi1l bi1h).mono ?_
      rintro e w9 ⟨rfl, h9⟩
      clear p0_0 p0_1 p0_2
      generalize foVal c0 xs2 a1 = r0
      generalize foErr c0 xs2 a1 = r1
      have b0_0 : Below w9.heap.size w9 w9.drew := (Below.refl _ _).drew
      have HK0 := Lib.hid (show ∀ W1, Below w9.heap.size w9 W1 → (fun W1 => Below w9.heap.size w9 W1 ∧ W1.cell? ⟨w6.heap.size, 0, none⟩ = some (.int .i16 c0.wi) ∧ W1.cell? ⟨w6.heap.size, 1, none⟩ = some (.int .i32 c0.lo) ∧ W1.cell? ⟨w6.heap.size, 2, none⟩ = some (.slice (some ⟨g2, 0, none⟩) c0.hs.length c0.hs.length) ∧ W1.cell? ⟨w.heap.size, 0, none⟩ = some (.int .i16 c0.wi) ∧ W1.cell? ⟨w.heap.size, 1, none⟩ = some (.int .i32 c0.lo) ∧ W1.cell? ⟨w.heap.size, 2, none⟩ = some (.slice A0 c0.hs.length k0)) W1 from fun W1 hB => ⟨hB, (X_0.out.below (bnext (bnext h8 h9) hB) Y_0.out).1, (X_0.out.below (bnext (bnext h8 h9) hB) Y_0.out).2.1, (X_0.out.below (bnext (bnext h8 h9) hB) Y_0.out).2.2, (A0_0.out.below (bnext (bnext (bnext (bnext (bnext (bnext (bnext (bnext h2 h3) h4) h5) h6) h7) h8) h9) hB) Z0_0.out).1, (A0_0.out.below (bnext (bnext (bnext (bnext (bnext (bnext (bnext (bnext h2 h3) h4) h5) h6) h7) h8) h9) hB) Z0_0.out).2.1, (A0_0.out.below (bnext (bnext (bnext (bnext (bnext (bnext (bnext (bnext h2 h3) h4) h5) h6) h7) h8) h9) hB) Z0_0.out).2.2⟩)
      have GG0 := Lib.hid (bnext (bnext (bnext (bnext (bnext (bnext (bnext (bnext h1 h2) h3) h4) h5) h6) h7) h8) h9)
      have RR0 := Lib.hid (R2.out.below (bnext (bnext h7 h8) h9))
      go_wp2
      go_region_held3 (fun W1 => Below w9.heap.size w9 W1 ∧ W1.cell? ⟨w6.heap.size, 0, none⟩ = some (.int .i16 c0.wi) ∧ W1.cell? ⟨w6.heap.size, 1, none⟩ = some (.int .i32 c0.lo) ∧ W1.cell? ⟨w6.heap.size, 2, none⟩ = some (.slice (some ⟨g2, 0, none⟩) c0.hs.length c0.hs.length) ∧ W1.cell? ⟨w.heap.size, 0, none⟩ = some (.int .i16 c0.wi) ∧ W1.cell? ⟨w.heap.size, 1, none⟩ = some (.int .i32 c0.lo) ∧ W1.cell? ⟨w.heap.size, 2, none⟩ = some (.slice A0 c0.hs.length k0)) (first | exact HK0.out _ b0_0 | (refine HK0.out _ (bnext ?_ hq); exact And.left (by assumption))) (first
        | (go_at_call 17; refine (toCase_any c0 _ _ (SL0.out.below (bnext GG0.out (And.left (by assumption)))) hn0).mono ?_; rintro e w' ⟨gz, rfl, hg, hr, hq⟩; have HR := Lib.hid (IRow.slice hr); clear hr hg)
        | (go_at_call 19; refine (eqCase_same c0 _ _ _ (RR0.out.below (And.left (by assumption))) HR.out ML0.out).mono ?_; rintro e w10 ⟨rfl, hq⟩))
      all_goals
        have h10 : Below w9.heap.size w9 w10 := And.left (by assumption)
        clear HK0 b0_0 GG0 RR0 HR
        go_wp2_with fail
        refine (toBookS_any _ xs2 _ (SL2.out.below (bnext (bnext (bnext (bnext (bnext (bnext (bnext (bnext (bnext h1 h2) h3) h4) h5) h6) h7) h8) h9) h10)) hn2).mono ?_
        rintro e w11 ⟨g4, rfl, hg4, hr4, h11⟩
        have R4 := Lib.hid (Row.slice hr4)
        clear hr4 hg4
        go_wp2_with fail
        refine (eqBookS_same _ _ xs2 _ (R3.out.below (bnext (bnext h9 h10) h11)) R4.out ML2.out).mono ?_
        rintro e w12 ⟨rfl, h12⟩
        go_wp2
        go_ret
        exact ⟨rfl, (bnext (bnext (bnext (bnext (bnext (bnext (bnext (bnext (bnext (bnext (bnext h1 h2) h3) h4) h5) h6) h7) h8) h9) h10) h11) h12)⟩
    · have e2 : (1048576 - (c0.hs.length : Int) - (xs2.length : Int) < 0) := by omega
      go_enter Try.func5, Try.ntmps5
      go_wp2_with fail
      generalize World.alloc _ _ = w1 at A0_0 Z0_0 h1 ⊢
      refine (szCase_left c0 _ _ _ _ mx0 (by omega) (by omega)).mono ?_
      rintro e w2 ⟨rfl, h2⟩
      rw [if_pos (by omega)]
      go_wp2_with fail
      refine (szBookS_left _ _ _ _ _ mx2 (by omega) (by omega)).mono ?_
      rintro e w' ⟨rfl, rfl⟩
      rw [if_neg (by omega)]
      go_wp2
      go_ret
      exact ⟨rfl, (bnext h1 h2)⟩
  · have e0 : (1048576 - (c0.hs.length : Int) < 0) := by omega
    go_enter Try.func5, Try.ntmps5
    go_wp2_with fail
    generalize World.alloc _ _ = w1 at A0_0 Z0_0 h1 ⊢
    refine (szCase_left c0 _ _ _ _ mx0 (by omega) (by omega)).mono ?_
    rintro e w2 ⟨rfl, h2⟩
    rw [if_neg (by omega)]
    go_wp2
    go_ret
    exact ⟨rfl, (bnext h1 h2)⟩

end Go.Proofs.Ytdkdchhkfachmaa
