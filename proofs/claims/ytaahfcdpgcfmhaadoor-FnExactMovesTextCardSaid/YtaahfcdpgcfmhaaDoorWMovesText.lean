/- The law of MovesText, walked. No condition. -/
import Derived.Test.YtaahfcdpgcfmhaaDoorMvT
import Derived.Deep.RegionHeld3
namespace Go.Proofs.YtaahfcdpgcfmhaaDoor
set_option linter.unusedSimpArgs false
set_option linter.unusedVariables false
set_option maxRecDepth 100000
open Go.RowKit

set_option maxHeartbeats 8000000 in
theorem walkMovesText (v0 : Value) (ms0 : List Mv) (wf0 : ∀ m ∈ ms0, m.Wf) (w : World) (htab : Tab w.heap.size w) (sl0 : MovesOf w v0 ms0) (ml0 : ms0.length ≤ maxLen) :
    Calls Tryd.prog 9 #[v0] w fun e w' => e = .returned (.bool true) ∧ Below w.heap.size w w' := by
  have HT := Lib.hid htab
  clear htab
  have mx0 : ms0.length ≤ 9223372036854775807 := by unfold maxLen at ml0; omega
  have SL0 := Lib.hid sl0
  have WF0 := Lib.hid wf0
  have ML0 := Lib.hid ml0
  obtain ⟨A0, k0, rfl, -⟩ := sl0
  clear wf0 ml0
  by_cases hn0 : (ms0.length : Int) ≤ 1048576
  · have e0 : ¬ (1048576 - (ms0.length : Int) < 0) := by omega
    go_enter Tryd.func9, Tryd.ntmps9
    go_wp2_with fail
    refine (szMoveS_left _ _ _ _ _ mx0 (by omega) (by omega)).mono ?_
    rintro e w' ⟨rfl, rfl⟩
    rw [if_pos (by omega)]
    replace hn0 : ms0.length ≤ 1048576 := by omega
    go_wp2_with fail
    refine (toMoveS_any _ ms0 _ SL0.out hn0).mono ?_
    rintro e w1 ⟨g0, rfl, hg0, hr0, h1⟩
    have R0 := Lib.hid (MRow.slice hr0)
    clear hr0 hg0
    go_wp2_with fail
    refine (specMovesText_any _ ms0 WF0.out _ R0.out ML0.out).mono ?_
    rintro e w2 ⟨rfl, h2⟩
    go_wp2_with fail
    refine (toMoveS_any _ ms0 _ (SL0.out.below (bnext h1 h2)) hn0).mono ?_
    rintro e w3 ⟨g1, rfl, hg1, hr1, h3⟩
    have R1 := Lib.hid (MRow.slice hr1)
    clear hr1 hg1
    go_wp2_with fail
    refine (movesText_any _ ms0 WF0.out _ R1.out ML0.out (HT.out.up (bnext (bnext h1 h2) h3))).mono ?_
    rintro e w4 ⟨rfl, h4⟩
    generalize movesS ms0 = r0
    go_wp2_with fail
    refine (toMoveS_any _ ms0 _ (SL0.out.below (bnext (bnext (bnext h1 h2) h3) h4)) hn0).mono ?_
    rintro e w5 ⟨g2, rfl, hg2, hr2, h5⟩
    have R2 := Lib.hid (MRow.slice hr2)
    clear hr2 hg2
    go_wp2_with fail
    refine (eqMoveS_same _ _ ms0 _ (R1.out.below (bnext h4 h5)) R2.out ML0.out).mono ?_
    rintro e w6 ⟨rfl, h6⟩
    go_wp2
    go_ret
    exact ⟨rfl, (bnext (bnext (bnext (bnext (bnext h1 h2) h3) h4) h5) h6)⟩
  · have e0 : (1048576 - (ms0.length : Int) < 0) := by omega
    go_enter Tryd.func9, Tryd.ntmps9
    go_wp2_with fail
    refine (szMoveS_left _ _ _ _ _ mx0 (by omega) (by omega)).mono ?_
    rintro e w' ⟨rfl, rfl⟩
    rw [if_neg (by omega)]
    go_wp2
    go_ret
    exact ⟨rfl, (Below.refl _ _)⟩

end Go.Proofs.YtaahfcdpgcfmhaaDoor
