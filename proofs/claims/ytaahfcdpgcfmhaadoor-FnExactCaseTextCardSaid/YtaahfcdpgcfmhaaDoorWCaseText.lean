/- The law of CaseText, walked. No condition. -/
import Derived.Test.YtaahfcdpgcfmhaaDoorCsT
import Derived.Deep.RegionHeld3
namespace Go.Proofs.YtaahfcdpgcfmhaaDoor
set_option linter.unusedSimpArgs false
set_option linter.unusedVariables false
set_option maxRecDepth 100000
open Go.RowKit

set_option maxHeartbeats 8000000 in
theorem walkCaseText (c0 : Cs) (hv0 : Value) (wf0 : c0.Wf) (w : World) (htab : Tab w.heap.size w) (sl0 : IntsOf .i16 w hv0 c0.hs) (ml0 : c0.hs.length ≤ maxLen) :
    Calls Tryd.prog 7 #[.agg #[.int .i16 c0.wi, .int .i32 c0.lo, hv0]] w fun e w' => e = .returned (.bool true) ∧ Below w.heap.size w w' := by
  have HT := Lib.hid htab
  clear htab
  have mx0 : c0.hs.length ≤ 9223372036854775807 := by unfold maxLen at ml0; omega
  have SL0 := Lib.hid sl0
  have WF0 := Lib.hid wf0
  have ML0 := Lib.hid ml0
  obtain ⟨A0, k0, rfl, -⟩ := sl0
  clear wf0 ml0
  have A0_0 := Lib.hid (CaseIn.new w c0 (.slice A0 c0.hs.length k0) 51)
  have Z0_0 := Lib.hid (show w.heap.size < ((World.alloc w (.cells #[.int .i16 c0.wi, .int .i32 c0.lo, .slice A0 c0.hs.length k0] 51))).heap.size by simp)
  have h1 : Below w.heap.size w (World.alloc w (.cells #[.int .i16 c0.wi, .int .i32 c0.lo, .slice A0 c0.hs.length k0] 51)) := by go_grown
  by_cases hn0 : (c0.hs.length : Int) ≤ 1048576
  · have e0 : ¬ (1048576 - (c0.hs.length : Int) < 0) := by omega
    go_enter Tryd.func7, Tryd.ntmps7
    go_wp2_with fail
    generalize World.alloc _ _ = w1 at A0_0 Z0_0 h1 ⊢
    refine (szCase_left c0 _ _ _ _ mx0 (by omega) (by omega)).mono ?_
    rintro e w2 ⟨rfl, h2⟩
    rw [if_pos (by omega)]
    replace hn0 : c0.hs.length ≤ 1048576 := by omega
    obtain ⟨p0_0, p0_1, p0_2⟩ := A0_0.out.below h2 Z0_0.out
    go_wp2_with fail
    refine (toCase_any c0 _ _ (SL0.out.below (bnext h1 h2)) hn0).mono ?_
    rintro e w3 ⟨g0, rfl, hg0, hr0, h3⟩
    clear p0_0 p0_1 p0_2
    have R0 := Lib.hid (IRow.slice hr0)
    clear hr0 hg0
    go_wp2_with fail
    refine (specCaseText_any c0 _ WF0.out _ R0.out ML0.out).mono ?_
    rintro e w4 ⟨rfl, h4⟩
    obtain ⟨p0_0, p0_1, p0_2⟩ := A0_0.out.below (bnext (bnext h2 h3) h4) Z0_0.out
    go_wp2_with fail
    refine (toCase_any c0 _ _ (SL0.out.below (bnext (bnext (bnext h1 h2) h3) h4)) hn0).mono ?_
    rintro e w5 ⟨g1, rfl, hg1, hr1, h5⟩
    clear p0_0 p0_1 p0_2
    have R1 := Lib.hid (IRow.slice hr1)
    clear hr1 hg1
    have X_0 := Lib.hid (CaseIn.new w5 c0 (.slice (some ⟨g1, 0, none⟩) c0.hs.length c0.hs.length) 54)
    have h6 := (Below.refl w5.heap.size w5).alloc (Nat.le_refl _) (.cells #[.int .i16 c0.wi, .int .i32 c0.lo, .slice (some ⟨g1, 0, none⟩) c0.hs.length c0.hs.length] 54)
    have Y_0 := Lib.hid (show w5.heap.size < (World.alloc w5 (.cells #[.int .i16 c0.wi, .int .i32 c0.lo, .slice (some ⟨g1, 0, none⟩) c0.hs.length c0.hs.length] 54)).heap.size by simp)
    go_wp2_with fail
    generalize World.alloc _ _ = w6 at X_0 h6 Y_0 ⊢
    refine (caseText_any c0 _ _ (R1.out.below h6) ML0.out (HT.out.up (bnext (bnext (bnext (bnext (bnext h1 h2) h3) h4) h5) h6))).mono ?_
    rintro e w7 ⟨rfl, h7⟩
    generalize caseS c0 = r0
    have b0_0 : Below w7.heap.size w7 w7.drew := (Below.refl _ _).drew
    have HK0 := Lib.hid (show ∀ W1, Below w7.heap.size w7 W1 → (fun W1 => Below w7.heap.size w7 W1 ∧ W1.cell? ⟨w5.heap.size, 0, none⟩ = some (.int .i16 c0.wi) ∧ W1.cell? ⟨w5.heap.size, 1, none⟩ = some (.int .i32 c0.lo) ∧ W1.cell? ⟨w5.heap.size, 2, none⟩ = some (.slice (some ⟨g1, 0, none⟩) c0.hs.length c0.hs.length) ∧ W1.cell? ⟨w.heap.size, 0, none⟩ = some (.int .i16 c0.wi) ∧ W1.cell? ⟨w.heap.size, 1, none⟩ = some (.int .i32 c0.lo) ∧ W1.cell? ⟨w.heap.size, 2, none⟩ = some (.slice A0 c0.hs.length k0)) W1 from fun W1 hB => ⟨hB, (X_0.out.below (bnext h7 hB) Y_0.out).1, (X_0.out.below (bnext h7 hB) Y_0.out).2.1, (X_0.out.below (bnext h7 hB) Y_0.out).2.2, (A0_0.out.below (bnext (bnext (bnext (bnext (bnext (bnext h2 h3) h4) h5) h6) h7) hB) Z0_0.out).1, (A0_0.out.below (bnext (bnext (bnext (bnext (bnext (bnext h2 h3) h4) h5) h6) h7) hB) Z0_0.out).2.1, (A0_0.out.below (bnext (bnext (bnext (bnext (bnext (bnext h2 h3) h4) h5) h6) h7) hB) Z0_0.out).2.2⟩)
    have GG0 := Lib.hid (bnext (bnext (bnext (bnext (bnext (bnext h1 h2) h3) h4) h5) h6) h7)
    have RR0 := Lib.hid (R1.out.below (bnext h6 h7))
    go_wp2
    go_region_held3 (fun W1 => Below w7.heap.size w7 W1 ∧ W1.cell? ⟨w5.heap.size, 0, none⟩ = some (.int .i16 c0.wi) ∧ W1.cell? ⟨w5.heap.size, 1, none⟩ = some (.int .i32 c0.lo) ∧ W1.cell? ⟨w5.heap.size, 2, none⟩ = some (.slice (some ⟨g1, 0, none⟩) c0.hs.length c0.hs.length) ∧ W1.cell? ⟨w.heap.size, 0, none⟩ = some (.int .i16 c0.wi) ∧ W1.cell? ⟨w.heap.size, 1, none⟩ = some (.int .i32 c0.lo) ∧ W1.cell? ⟨w.heap.size, 2, none⟩ = some (.slice A0 c0.hs.length k0)) (first | exact HK0.out _ b0_0 | (refine HK0.out _ (bnext ?_ hq); exact And.left (by assumption))) (first
      | (go_at_call 34; refine (toCase_any c0 _ _ (SL0.out.below (bnext GG0.out (And.left (by assumption)))) hn0).mono ?_; rintro e w' ⟨gz, rfl, hg, hr, hq⟩; have HR := Lib.hid (IRow.slice hr); clear hr hg)
      | (go_at_call 36; refine (eqCase_same c0 _ _ _ (RR0.out.below (And.left (by assumption))) HR.out ML0.out).mono ?_; rintro e w8 ⟨rfl, hq⟩))
    all_goals
      have h8 : Below w7.heap.size w7 w8 := And.left (by assumption)
      clear HK0 b0_0 GG0 RR0 HR
      go_wp2
      go_ret
      exact ⟨rfl, (bnext (bnext (bnext (bnext (bnext (bnext (bnext h1 h2) h3) h4) h5) h6) h7) h8)⟩
  · have e0 : (1048576 - (c0.hs.length : Int) < 0) := by omega
    go_enter Tryd.func7, Tryd.ntmps7
    go_wp2_with fail
    generalize World.alloc _ _ = w1 at A0_0 Z0_0 h1 ⊢
    refine (szCase_left c0 _ _ _ _ mx0 (by omega) (by omega)).mono ?_
    rintro e w2 ⟨rfl, h2⟩
    rw [if_neg (by omega)]
    go_wp2
    go_ret
    exact ⟨rfl, (bnext h1 h2)⟩

end Go.Proofs.YtaahfcdpgcfmhaaDoor
